/- Facts of the program over abstract values. No condition. -/
import Derived.Test.YtffiicopifmmfaaZl
set_option linter.unusedSimpArgs false
set_option maxRecDepth 8000
namespace Go.Proofs.Ytffiicopifmmfaa
set_option linter.unusedSimpArgs false
set_option linter.unusedVariables false
set_option linter.unnecessarySimpa false
set_option linter.unusedSectionVars false
open Go.Proofs.Try
open Go.Proofs.Ytffiicopifmmfaa.Ai
set_option maxHeartbeats 4000000

def ordE (b : Bk) (m : Tm) (id : Int) : Int := bif decide (bookE b m = 0) then (bif inB 1 b.os.length id then 0 else 6) else bookE b m
def ordAt (b : Bk) (id : Int) : O := b.os.getD (id - 1).toNat default
def avE (b : Bk) (m : Tm) (id st now : Int) : Int := bif decide (ordE b m id = 0) then advE (ordAt b id) st now else ordE b m id
theorem ord0 {b : Bk} {m : Tm} {id : Int} (h : ordE b m id = 0) : bookE b m = 0 ∧ ∃ k : Nat, id = (k : Int) + 1 ∧ b.os[k]? = some (ordAt b id) := by
  unfold ordE at h
  by_cases h0 : bookE b m = 0
  case neg => simp [h0] at h
  cases h1 : inB 1 b.os.length id
  case false => simp [h0, h1] at h
  simp only [inB, Bool.and_eq_true, decide_eq_true_eq] at h1
  have hk : (id - 1).toNat < b.os.length := by omega
  exact ⟨h0, (id - 1).toNat, by omega, by simp only [ordAt, List.getD, List.getElem?_eq_getElem hk, Option.getD_some]⟩
theorem ordN {b : Bk} {m : Tm} {id : Int} (h : ¬ ordE b m id = 0) : ¬ bookE b m = 0 ∧ ordE b m id = bookE b m ∨ bookE b m = 0 ∧ inB 1 b.os.length id = false ∧ ordE b m id = 6 := by
  unfold ordE at *
  by_cases h0 : bookE b m = 0
  · cases h1 : inB 1 b.os.length id
    · exact .inr ⟨h0, rfl, by simp [h0]⟩
    · simp [h0, h1] at h
  · exact .inl ⟨h0, by simp [h0]⟩

theorem advanceIn_bad {oV qV : AV} {b : Bk} {m : Tm} (hO : isSl 6 oV (b.os.map oc)) (hQ : isSl 1 qV (b.q.map intc)) (h : Fit b m) (id st now : Int) (ha : ¬ avE b m id st now = 0) :
    PCall prog 71 [.agg (tmc m), .agg (bkv oV qV b), .int .i64 id, .int .u8 st, .int .u64 now] (.tup [.agg zbk, .int .i64 (avE b m id st now)]) := by
  have o1 : oV.one = True := eq_true (isSl_one hO)
  have o2 : qV.one = True := eq_true (isSl_one hQ)
  have c1 := isSl_cl hO (cl_os _)
  have c2 := isSl_cl hQ (cl_is _)
  by_cases h0 : bookE b m = 0
  case neg =>
    have hk := ledgerOf_bad hO hQ h h0
    have he : avE b m id st now = bookE b m := by simp [avE, ordE, h0]
    clear hO hQ
    rw [he]
    obtain ⟨c, hb, hl⟩ := l71
    refine pcall_of mixed e71 hb rfl hl r71 (by rw [n71]; simp) ?_
    clear hb hl c
    (try simp only [push_cast, seval, reduceCtorEq, c1, c2, o1, o2, h0])
    repeat' (first
      | ((first | ((first | refine brX_split ?_ ?_ | refine gX_split ?_ ?_ | refine hX_split ?_ ?_ | refine outK_split ?_ ?_) <;> (intro xc; (try simp only [Bool.not_eq_true', Bool.not_eq_false'] at xc); have xp := xc; (try simp only [decide_eq_true_eq, decide_eq_false_iff_not, Int.not_lt, Int.not_le, ge_iff_le, gt_iff_lt, Bool.and_eq_true, Bool.or_eq_false_iff] at xp); have xq := xp; (first | simp only [← Int.not_le] at xq | simp only [← Int.not_lt] at xq | clear xq))) | refine ⟨.ret _, _, PCall.s (by first | assumption) (by simp [push_cast, c1, c2, o1, o2, h0]), ?_⟩ | refine ⟨.ret _, _, RCall.s (RCall.sh (by first | assumption)) (by simp [push_cast, c1, c2, o1, o2, h0]), ?_⟩ | refine ⟨_, _, SCall.lift (by first | assumption) (outR_cl (by simp [push_cast]) (by simp [push_cast])) (by simp [push_cast, c1, c2, o1, o2, h0]), ?_⟩ | refine ⟨_, (by first | assumption), ?_⟩ | refine ⟨0, [], _, PCall.r (by first | assumption), ?_⟩ | refine ⟨_, _, (by first | assumption), ?_⟩ | refine ⟨_, _, _, RCall.sh (by first | assumption), ?_⟩ | refine ⟨_, _, _, (by first | assumption), ?_⟩ | ((fail_if_success (refine ⟨_, ?_, ?_⟩)); refine ⟨AV.any, ?_⟩) | refine ret_frz rfl ?_ (by simp [push_cast]) (by simp [push_cast, c1, c2, o1, o2, h0]) (by simp [push_cast, c1, c2, o1, o2, h0]) | refine end_frz rfl ?_ (by simp [push_cast]) (by simp [push_cast, c1, c2, o1, o2, h0]) (by simp [push_cast, c1, c2, o1, o2, h0]) | refine ret_now (by simp [push_cast]) ?_ (by simp [push_cast]) | refine end_now (by simp [push_cast]) ?_ (by simp [push_cast])) <;> (try simp only [push_cast, seval, reduceCtorEq, *, c1, c2, o1, o2, h0]))
      | ((first | refine cv_ptE rfl rfl rfl rfl rfl ?_ | refine outQ_frz rfl ?_ (by simp [push_cast]) (by simp [push_cast, c1, c2, o1, o2, h0]) | refine dfr_end (by simp) rfl ?_ (by simp [push_cast]) (by simp [push_cast, c1, c2, o1, o2, h0])) <;> (try simp only [push_cast, seval, reduceCtorEq, c1, c2, o1, o2, h0]))
      | exact cv_slE rfl rfl ⟨rfl, rfl⟩ (by simp) (by simp [take_map_len])
      | refine outQ_pan ?_ (by simp [push_cast])
      | refine outQ_unit ?_
      | refine outQ_unitN ?_
      | refine And.intro ?_ ?_
      | omega)
    all_goals (try simp only [push_cast, seval, reduceCtorEq, c1, c2, o1, o2, h0])
    all_goals first
      | (simp only [*, c1, c2, o1, o2, h0]; done)
      | (simp [*, c1, c2, o1, o2, h0]; done)
      | (simp_all [c1, c2, o1, o2, h0]; done)
      | (simp_all [c1, c2, o1, o2, h0]; omega)
      | skip
  have hl := ledgerOf_ok hO hQ h h0
  have hlen := book0_len h0
  have hfin : ∃ oo e, PCall prog 72 [.agg (ldc b m), .int .i64 id] (.tup [.agg (oc oo), .int .i64 e]) ∧ (e = 0 ∧ avE b m id st now = advE oo st now ∨ ¬ e = 0 ∧ avE b m id st now = e) := by
    by_cases h2 : ordE b m id = 0
    · obtain ⟨_, k, rfl, hk⟩ := ord0 h2
      exact ⟨_, 0, order_ok b m k _ hk (by omega), .inl ⟨rfl, by simp [avE, h2]⟩⟩
    · rcases ordN h2 with ⟨h3, _⟩ | ⟨_, h3, h4⟩
      · exact absurd h0 h3
      · exact ⟨⟨0, 0, 0, 0, 0, 0⟩, 6, order_bad b m id h3, .inr ⟨by decide, by simp [avE, h2, h4]⟩⟩
  obtain ⟨⟨a1, a2, a3, a4, a5, a6⟩, e, ho, hcase⟩ := hfin
  have hb : ∀ oo : O, avE b m id st now = advE oo st now → PCall prog 18 [.agg (oc oo), .int .u8 st, .int .u64 now] (.tup [.agg zoc, .int .i64 (avE b m id st now)]) := fun oo e => by
    rw [e]; exact adv_bad oo st now (e ▸ ha)
  generalize avE b m id st now = E at *
  obtain ⟨os, q, cw, cm⟩ := b
  have key : ∀ oV' qV' : AV, (∀ s : Store, s.nx = 7 → True) → True := fun _ _ _ => trivial
  clear key
  rcases os with _ | ⟨o, l⟩ <;> rcases q with _ | ⟨i, j⟩
  all_goals simp only [List.map_nil, List.map_cons, isSl] at hO hQ
  · rcases hO with rfl | rfl <;> rcases hQ with rfl | rfl <;> rcases hcase with ⟨rfl, he⟩ | ⟨he, rfl⟩
    all_goals
    simp only [clV, clR] at hl
    obtain ⟨c, hb, hl⟩ := l71
    refine pcall_of mixed e71 hb rfl hl r71 (by rw [n71]; simp) ?_
    clear hb hl c
    (try simp only [push_cast, seval, reduceCtorEq, ha])
    repeat' (first
      | ((first | ((first | refine brX_split ?_ ?_ | refine gX_split ?_ ?_ | refine hX_split ?_ ?_ | refine outK_split ?_ ?_) <;> (intro xc; (try simp only [Bool.not_eq_true', Bool.not_eq_false'] at xc); have xp := xc; (try simp only [decide_eq_true_eq, decide_eq_false_iff_not, Int.not_lt, Int.not_le, ge_iff_le, gt_iff_lt, Bool.and_eq_true, Bool.or_eq_false_iff] at xp); have xq := xp; (first | simp only [← Int.not_le] at xq | simp only [← Int.not_lt] at xq | clear xq))) | refine ⟨.ret _, _, PCall.s (by first | assumption | exact hb _ ‹_›) (by simp [push_cast, ha]), ?_⟩ | refine ⟨.ret _, _, RCall.s (RCall.sh (by first | assumption | exact hb _ ‹_›)) (by simp [push_cast, ha]), ?_⟩ | refine ⟨_, _, SCall.lift (by first | assumption | exact hb _ ‹_›) (outR_cl (by simp [push_cast]) (by simp [push_cast])) (by simp [push_cast, ha]), ?_⟩ | refine ⟨_, (by first | assumption | exact hb _ ‹_›), ?_⟩ | refine ⟨0, [], _, PCall.r (by first | assumption | exact hb _ ‹_›), ?_⟩ | refine ⟨_, _, (by first | assumption | exact hb _ ‹_›), ?_⟩ | refine ⟨_, _, _, RCall.sh (by first | assumption | exact hb _ ‹_›), ?_⟩ | refine ⟨_, _, _, (by first | assumption | exact hb _ ‹_›), ?_⟩ | refine ⟨_, _, PCall.frz (by first | exact ho) (by (try simp only [all2_cons, all2_nil, frzArg, push_cast, Nat.reduceBEq, Nat.reduceLeDiff, Nat.reduceAdd]); repeat' (first | exact trivial | exact cv_slF rfl rfl ⟨rfl, rfl⟩ (by simp) (by first | rfl | (simp; done)) (by first | rfl | (simp; done) | (simp; omega)) | exact cv_closed (by simp [push_cast]) | refine And.intro ?_ ?_ | rfl | (simp [push_cast]; done))) (by simp [push_cast, ha]), ?_⟩ | refine ⟨.ret _, _, RCall.frz (RCall.sh (by first | exact ho)) (by (try simp only [all2_cons, all2_nil, frzArg, push_cast, Nat.reduceBEq, Nat.reduceLeDiff, Nat.reduceAdd]); repeat' (first | exact trivial | exact cv_slF rfl rfl ⟨rfl, rfl⟩ (by simp) (by first | rfl | (simp; done)) (by first | rfl | (simp; done) | (simp; omega)) | exact cv_closed (by simp [push_cast]) | refine And.intro ?_ ?_ | rfl | (simp [push_cast]; done))) (by simp [push_cast, ha]) (by simp [push_cast, ha]), ?_⟩ | ((fail_if_success (refine ⟨_, ?_, ?_⟩)); refine ⟨AV.any, ?_⟩) | refine ret_frz rfl ?_ (by simp [push_cast]) (by simp [push_cast, ha]) (by simp [push_cast, ha]) | refine end_frz rfl ?_ (by simp [push_cast]) (by simp [push_cast, ha]) (by simp [push_cast, ha]) | refine ret_now (by simp [push_cast]) ?_ (by simp [push_cast]) | refine end_now (by simp [push_cast]) ?_ (by simp [push_cast])) <;> (try simp only [push_cast, seval, reduceCtorEq, *, ha]))
      | ((first | refine cv_ptE rfl rfl rfl rfl rfl ?_ | refine outQ_frz rfl ?_ (by simp [push_cast]) (by simp [push_cast, ha]) | refine dfr_end (by simp) rfl ?_ (by simp [push_cast]) (by simp [push_cast, ha])) <;> (try simp only [push_cast, seval, reduceCtorEq, ha]))
      | exact cv_slE rfl rfl ⟨rfl, rfl⟩ (by simp) (by simp [take_map_len])
      | refine outQ_pan ?_ (by simp [push_cast])
      | refine outQ_unit ?_
      | refine outQ_unitN ?_
      | refine And.intro ?_ ?_
      | omega)
    all_goals (try simp only [push_cast, seval, reduceCtorEq, ha])
    all_goals first
      | (simp only [*, ha]; done)
      | (simp [*, ha]; done)
      | (simp_all [ha]; done)
      | (simp_all [ha]; omega)
      | skip
  · exfalso
    obtain ⟨_, _, g, _⟩ := book0 h0
    simp [queB, nwU] at g
  · rcases hQ with rfl | rfl <;> subst hO <;> rcases hcase with ⟨rfl, he⟩ | ⟨he, rfl⟩
    all_goals
    simp only [clV, clR] at hl
    obtain ⟨c, hb, hl⟩ := l71
    refine pcall_of mixed e71 hb rfl hl r71 (by rw [n71]; simp) ?_
    clear hb hl c
    (try simp only [push_cast, seval, reduceCtorEq, ha])
    repeat' (first
      | ((first | ((first | refine brX_split ?_ ?_ | refine gX_split ?_ ?_ | refine hX_split ?_ ?_ | refine outK_split ?_ ?_) <;> (intro xc; (try simp only [Bool.not_eq_true', Bool.not_eq_false'] at xc); have xp := xc; (try simp only [decide_eq_true_eq, decide_eq_false_iff_not, Int.not_lt, Int.not_le, ge_iff_le, gt_iff_lt, Bool.and_eq_true, Bool.or_eq_false_iff] at xp); have xq := xp; (first | simp only [← Int.not_le] at xq | simp only [← Int.not_lt] at xq | clear xq))) | refine ⟨.ret _, _, PCall.s (by first | assumption | exact hb _ ‹_›) (by simp [push_cast, ha]), ?_⟩ | refine ⟨.ret _, _, RCall.s (RCall.sh (by first | assumption | exact hb _ ‹_›)) (by simp [push_cast, ha]), ?_⟩ | refine ⟨_, _, SCall.lift (by first | assumption | exact hb _ ‹_›) (outR_cl (by simp [push_cast]) (by simp [push_cast])) (by simp [push_cast, ha]), ?_⟩ | refine ⟨_, (by first | assumption | exact hb _ ‹_›), ?_⟩ | refine ⟨0, [], _, PCall.r (by first | assumption | exact hb _ ‹_›), ?_⟩ | refine ⟨_, _, (by first | assumption | exact hb _ ‹_›), ?_⟩ | refine ⟨_, _, _, RCall.sh (by first | assumption | exact hb _ ‹_›), ?_⟩ | refine ⟨_, _, _, (by first | assumption | exact hb _ ‹_›), ?_⟩ | refine ⟨_, _, PCall.frz (by first | exact ho) (by (try simp only [all2_cons, all2_nil, frzArg, push_cast, Nat.reduceBEq, Nat.reduceLeDiff, Nat.reduceAdd]); repeat' (first | exact trivial | exact cv_slF rfl rfl ⟨rfl, rfl⟩ (by simp) (by first | rfl | (simp; done)) (by first | rfl | (simp; done) | (simp; omega)) | exact cv_closed (by simp [push_cast]) | refine And.intro ?_ ?_ | rfl | (simp [push_cast]; done))) (by simp [push_cast, ha]), ?_⟩ | refine ⟨.ret _, _, RCall.frz (RCall.sh (by first | exact ho)) (by (try simp only [all2_cons, all2_nil, frzArg, push_cast, Nat.reduceBEq, Nat.reduceLeDiff, Nat.reduceAdd]); repeat' (first | exact trivial | exact cv_slF rfl rfl ⟨rfl, rfl⟩ (by simp) (by first | rfl | (simp; done)) (by first | rfl | (simp; done) | (simp; omega)) | exact cv_closed (by simp [push_cast]) | refine And.intro ?_ ?_ | rfl | (simp [push_cast]; done))) (by simp [push_cast, ha]) (by simp [push_cast, ha]), ?_⟩ | ((fail_if_success (refine ⟨_, ?_, ?_⟩)); refine ⟨AV.any, ?_⟩) | refine ret_frz rfl ?_ (by simp [push_cast]) (by simp [push_cast, ha]) (by simp [push_cast, ha]) | refine end_frz rfl ?_ (by simp [push_cast]) (by simp [push_cast, ha]) (by simp [push_cast, ha]) | refine ret_now (by simp [push_cast]) ?_ (by simp [push_cast]) | refine end_now (by simp [push_cast]) ?_ (by simp [push_cast])) <;> (try simp only [push_cast, seval, reduceCtorEq, *, ha]))
      | ((first | refine cv_ptE rfl rfl rfl rfl rfl ?_ | refine outQ_frz rfl ?_ (by simp [push_cast]) (by simp [push_cast, ha]) | refine dfr_end (by simp) rfl ?_ (by simp [push_cast]) (by simp [push_cast, ha])) <;> (try simp only [push_cast, seval, reduceCtorEq, ha]))
      | exact cv_slE rfl rfl ⟨rfl, rfl⟩ (by simp) (by simp [take_map_len])
      | refine outQ_pan ?_ (by simp [push_cast])
      | refine outQ_unit ?_
      | refine outQ_unitN ?_
      | refine And.intro ?_ ?_
      | omega)
    all_goals (try simp only [push_cast, seval, reduceCtorEq, ha])
    all_goals first
      | (simp only [*, ha]; done)
      | (simp [*, ha]; done)
      | (simp_all [ha]; done)
      | (simp_all [ha]; omega)
      | skip
  · subst hO; subst hQ; rcases hcase with ⟨rfl, he⟩ | ⟨he, rfl⟩
    all_goals
    simp only [clV, clR] at hl
    obtain ⟨c, hb, hl⟩ := l71
    refine pcall_of mixed e71 hb rfl hl r71 (by rw [n71]; simp) ?_
    clear hb hl c
    (try simp only [push_cast, seval, reduceCtorEq, ha])
    repeat' (first
      | ((first | ((first | refine brX_split ?_ ?_ | refine gX_split ?_ ?_ | refine hX_split ?_ ?_ | refine outK_split ?_ ?_) <;> (intro xc; (try simp only [Bool.not_eq_true', Bool.not_eq_false'] at xc); have xp := xc; (try simp only [decide_eq_true_eq, decide_eq_false_iff_not, Int.not_lt, Int.not_le, ge_iff_le, gt_iff_lt, Bool.and_eq_true, Bool.or_eq_false_iff] at xp); have xq := xp; (first | simp only [← Int.not_le] at xq | simp only [← Int.not_lt] at xq | clear xq))) | refine ⟨.ret _, _, PCall.s (by first | assumption | exact hb _ ‹_›) (by simp [push_cast, ha]), ?_⟩ | refine ⟨.ret _, _, RCall.s (RCall.sh (by first | assumption | exact hb _ ‹_›)) (by simp [push_cast, ha]), ?_⟩ | refine ⟨_, _, SCall.lift (by first | assumption | exact hb _ ‹_›) (outR_cl (by simp [push_cast]) (by simp [push_cast])) (by simp [push_cast, ha]), ?_⟩ | refine ⟨_, (by first | assumption | exact hb _ ‹_›), ?_⟩ | refine ⟨0, [], _, PCall.r (by first | assumption | exact hb _ ‹_›), ?_⟩ | refine ⟨_, _, (by first | assumption | exact hb _ ‹_›), ?_⟩ | refine ⟨_, _, _, RCall.sh (by first | assumption | exact hb _ ‹_›), ?_⟩ | refine ⟨_, _, _, (by first | assumption | exact hb _ ‹_›), ?_⟩ | refine ⟨_, _, PCall.frz (by first | exact ho) (by (try simp only [all2_cons, all2_nil, frzArg, push_cast, Nat.reduceBEq, Nat.reduceLeDiff, Nat.reduceAdd]); repeat' (first | exact trivial | exact cv_slF rfl rfl ⟨rfl, rfl⟩ (by simp) (by first | rfl | (simp; done)) (by first | rfl | (simp; done) | (simp; omega)) | exact cv_closed (by simp [push_cast]) | refine And.intro ?_ ?_ | rfl | (simp [push_cast]; done))) (by simp [push_cast, ha]), ?_⟩ | refine ⟨.ret _, _, RCall.frz (RCall.sh (by first | exact ho)) (by (try simp only [all2_cons, all2_nil, frzArg, push_cast, Nat.reduceBEq, Nat.reduceLeDiff, Nat.reduceAdd]); repeat' (first | exact trivial | exact cv_slF rfl rfl ⟨rfl, rfl⟩ (by simp) (by first | rfl | (simp; done)) (by first | rfl | (simp; done) | (simp; omega)) | exact cv_closed (by simp [push_cast]) | refine And.intro ?_ ?_ | rfl | (simp [push_cast]; done))) (by simp [push_cast, ha]) (by simp [push_cast, ha]), ?_⟩ | ((fail_if_success (refine ⟨_, ?_, ?_⟩)); refine ⟨AV.any, ?_⟩) | refine ret_frz rfl ?_ (by simp [push_cast]) (by simp [push_cast, ha]) (by simp [push_cast, ha]) | refine end_frz rfl ?_ (by simp [push_cast]) (by simp [push_cast, ha]) (by simp [push_cast, ha]) | refine ret_now (by simp [push_cast]) ?_ (by simp [push_cast]) | refine end_now (by simp [push_cast]) ?_ (by simp [push_cast])) <;> (try simp only [push_cast, seval, reduceCtorEq, *, ha]))
      | ((first | refine cv_ptE rfl rfl rfl rfl rfl ?_ | refine outQ_frz rfl ?_ (by simp [push_cast]) (by simp [push_cast, ha]) | refine dfr_end (by simp) rfl ?_ (by simp [push_cast]) (by simp [push_cast, ha])) <;> (try simp only [push_cast, seval, reduceCtorEq, ha]))
      | exact cv_slE rfl rfl ⟨rfl, rfl⟩ (by simp) (by simp [take_map_len])
      | refine outQ_pan ?_ (by simp [push_cast])
      | refine outQ_unit ?_
      | refine outQ_unitN ?_
      | refine And.intro ?_ ?_
      | omega)
    all_goals (try simp only [push_cast, seval, reduceCtorEq, ha])
    all_goals first
      | (simp only [*, ha]; done)
      | (simp [*, ha]; done)
      | (simp_all [ha]; done)
      | (simp_all [ha]; omega)
      | skip
end Go.Proofs.Ytffiicopifmmfaa
