/- Facts of the program over abstract values. No condition. -/
import Derived.Test.YtggmkfagcjdifaaDoorDc
set_option maxRecDepth 8000
namespace Go.Proofs.YtggmkfagcjdifaaDoor
set_option linter.unusedSimpArgs false
set_option linter.unusedVariables false
set_option linter.unnecessarySimpa false
set_option linter.unusedSectionVars false
open Go.Proofs.Tryd
open Go.Proofs.YtggmkfagcjdifaaDoor.Ai
set_option maxHeartbeats 4000000
set_option linter.unusedVariables false
open Go.Proofs.YtggmkfagcjdifaaDoor.Sh hiding mixed

theorem rcT_eq : gcells 1 = Sh.rc.map u32 := by
  unfold gcells gtab; show rcT = _; unfold rcT rcN; rfl
theorem fsT_eq : gcells 0 = stc ⟨1779033703, 3144134277, 1013904242, 2773480762, 1359893119, 2600822924, 528734635, 1541459225⟩ := by
  unfold gcells gtab; show fsT = _; unfold fsT ivN; rfl
theorem rc_lt : ∀ x ∈ Sh.rc, x < 4294967296 := by decide +kernel
def addK (ms ss : List Nat) (k : Nat) : List Nat := List.zipWith (fun a b => (a + b) % 4294967296) (ms.take k) (ss.take k) ++ ms.drop k
theorem addK_len {ms ss : List Nat} (h : ms.length = ss.length) (k : Nat) : (addK ms ss k).length = ms.length := by simp [addK]; omega
theorem addK_at {ms ss : List Nat} (h : ms.length = ss.length) {k m : Nat} (hm : ms[k]? = some m) : (addK ms ss k)[k]? = some m := by
  have hk := (List.getElem?_eq_some_iff.1 hm).1
  rw [addK, List.getElem?_append_right (by simp; omega)]
  simp only [List.length_zipWith, List.length_take]
  rw [show k - min (min k ms.length) (min k ss.length) = 0 by omega, List.getElem?_drop]; exact hm
theorem addK_set {ms ss : List Nat} (h : ms.length = ss.length) {k m s : Nat} (hm : ms[k]? = some m) (hs : ss[k]? = some s) : (addK ms ss k).set k ((m + s) % 4294967296) = addK ms ss (k + 1) := by
  have hk := (List.getElem?_eq_some_iff.1 hm).1
  rw [addK, List.set_append_right _ _ (by simp; omega)]
  simp only [List.length_zipWith, List.length_take]
  rw [show k - min (min k ms.length) (min k ss.length) = 0 by omega, drop_at hm, List.set_cons_zero, addK, List.take_add_one, List.take_add_one, hm, hs]
  simp only [Option.toList]
  rw [List.zipWith_append (by simp; omega)]
  simp
abbrev stL (s : Sh.St) : List Nat := [s.a, s.b, s.c, s.d, s.e, s.f, s.g, s.h]
theorem stc_map (s : Sh.St) : (stL s).map u32 = stc s := rfl
theorem addK_8 (m s : Sh.St) : (addK (stL m) (stL s) 8).map u32 = stc (m.add s) := rfl
abbrev zs8 : List AV := [.int .u32 0, .int .u32 0, .int .u32 0, .int .u32 0, .int .u32 0, .int .u32 0, .int .u32 0, .int .u32 0]
theorem stc_cl (s : Sh.St) : (∀ v, v ∈ stc s → Cl v) = True := by simp [stc, push_cast]
theorem stc_one (s : Sh.St) : (∀ v, v ∈ stc s → v.one) = True := by simp [stc, push_cast]
attribute [local push_cast] stc_cl stc_one
theorem comp_p (s : Sh.St) (hs : s.ok) (l : List UInt8) (hl : l.length = 64) : PCall prog 27 [.agg (stc s), .agg (l.map u8c)] (.agg (stc (Sh.compress s l))) := by
  have hst : stc s = (stL s).map u32 := rfl
  have hl8 : (stL s).length = 8 := rfl
  generalize hss : stL s = ss at hst hl8
  have ht : List.take 64 (l.map u8c) = l.map u8c := List.take_of_length_le (by simp; omega)
  have ht8 : List.take 8 (ss.map u32) = ss.map u32 := List.take_of_length_le (by simp; omega)
  have c1 := sched_p l hl
  simp only [hst]
  obtain ⟨c, hb, hl⟩ := l27
  refine pcall_of mixed e27 hb rfl hl r27 (by rw [n27]; simp) ?_
  clear hb hl c
  (try simp only [push_cast, Nat.zero_lt_succ, Nat.reduceAdd, Nat.reduceBEq, ht, ht8, hl8, hl])
  repeat' ((((((apply sc_p; (case h => (exact c1)); (case hc => ((simp only [push_cast] <;> fail "n")))))) <;> (try simp only [push_cast, Nat.reduceAdd, *]))))
  have hst8 : (stL s).map u32 = stc s := rfl
  refine w_loopS (fun k : Nat => ([(2, .pt 1 8 0 0), (4, .pt 2 8 0 0), (5, .pt 0 8 0 0), (6, .fn (.func 47) [] [.pt 0 8 0 0]), (14, .agg ((sched l).map u32)), (15, .int .i64 k)], ⟨3, [(0, ⟨8, [stc (Sh.rounds s (sched l) k)]⟩), (1, ⟨8, [ss.map u32]⟩), (2, ⟨8, [zs8]⟩)]⟩)) (fun k => k ≤ 64) (fun k => 64 - k) 0 (Nat.zero_le _) ?_ ?_
  · have hz : stc (Sh.rounds s (sched l) 0) = ss.map u32 := hst
    simp only [hz, zs8]
    (apply Wk.renA (fun _ => false); (case he => (try simp only [push_cast, Nat.reduceBEq]); (repeat' (first | (refine all2_cl ?_; (((simp only [push_cast] <;> fail "n")))) | refine And.intro ?_ ?_ | rfl | omega))); (case hr => (try simp only [push_cast, Nat.reduceBEq]); (repeat' (first | (refine cellsCv_eq ?_ ?_; (simp <;> fail "n"); (((simp only [push_cast] <;> fail "n")))) | refine And.intro ?_ ?_ | omega))); (all_goals try exact 0); (case hinj => (((simp [rhoA_0, rhoA_1, rhoA_2]; done)))))
  rintro k hk
  rcases Nat.lt_or_ge k 64 with hk' | hk'
  · have hd := dltL (k := k) (n := 64) (by omega)
    have hw := inc64 (k := k) (by omega)
    obtain ⟨x, hx⟩ := lt_get (xs := sched l) (k := k) (by rw [sched_length]; exact hk')
    obtain ⟨r, hr⟩ := lt_get (xs := Sh.rc) (k := k) (by rw [rc_length]; exact hk')
    have h1 := hd_at (f := u32) hx
    have h2 := ld_at (f := u32) hr
    have hxl := sched_lt l x (List.mem_of_getElem? hx)
    have hrl := rc_lt r (List.mem_of_getElem? hr)
    have hm := fun n => mix_s (Sh.rounds s (sched l) k) (rounds_ok hs _ _) r x hrl hxl (n + 3) [(1, ⟨8, [ss.map u32]⟩), (2, ⟨8, [zs8]⟩)] (by intro q hq; simp only [List.mem_cons, List.not_mem_nil, or_false] at hq; rcases hq with rfl | rfl <;> simp [push_cast, zs8] <;> omega)
    have hstep : Sh.rounds s (sched l) (k + 1) = (Sh.rounds s (sched l) k).step r x := by
      rw [Sh.rounds, List.getD_eq_getElem?_getD, List.getD_eq_getElem?_getD, hr, hx]; rfl
    rw [← hstep] at hm
    clear hstep
    have hsl := sched_length l
    have hrl' := rc_length
    have hgl : (gcells 1).length = 64 := by rw [rcT_eq]; rfl
    simp only [← rcT_eq] at h2
    (try simp only [push_cast, Int.reduceAdd, Nat.reduceAdd, Nat.reduceBEq, hd, h1, h2, hgl])
    repeat' (first | ((((apply sc_s; (case h => (exact hm _))))) <;> (try simp only [push_cast, Nat.reduceAdd, Nat.reduceBEq, *])) | refine And.intro ?_ ?_ | omega)
    all_goals (first | (simp_all []; omega) | skip)
    all_goals (refine rnd_to _ _ _ (k + 1) (by show k + 1 ≤ 64; omega) (by (omega)) ?_; (apply Wk.renA (fun _ => false); (case he => (try simp only [push_cast, Nat.reduceBEq]); (repeat' (first | (refine all2_cl ?_; (((simp only [push_cast] <;> fail "n")))) | refine And.intro ?_ ?_ | rfl | omega))); (case hr => (try simp only [push_cast, Nat.reduceBEq]); (repeat' (first | (refine cellsCv_eq ?_ ?_; (simp <;> fail "n"); (((simp only [push_cast] <;> fail "n")))) | refine And.intro ?_ ?_ | omega))); (all_goals try exact 0); (case hinj => (((simp [rhoA_0, rhoA_1, rhoA_2]; done))))))
  · obtain rfl : k = 64 := by omega
    simp only [mixed_eq]
    (try simp only [push_cast, Nat.reduceSub, Int.reduceAdd, Nat.zero_lt_succ, Nat.reduceAdd, Nat.reduceBEq, Int.reduceLT, ht8])
    have hs8 : (stL s).length = 8 := rfl
    refine w_loopS (fun k : Nat => ([(4, .pt 1 8 0 0), (5, .pt 0 8 0 0), (26, .agg (ss.map u32)), (27, .int .i64 k)], ⟨2, [(0, ⟨8, [(addK (stL (Sh.mixed s l)) ss k).map u32]⟩), (1, ⟨8, [zs8]⟩)]⟩)) (fun k => k ≤ 8) (fun k => 8 - k) 0 (Nat.zero_le _) ?_ ?_
    · have h0 : (addK (stL (Sh.mixed s l)) ss 0).map u32 = stc (Sh.mixed s l) := rfl
      simp only [h0, zs8]
      (apply Wk.renA (fun _ => false); (case he => (try simp only [push_cast, Nat.reduceBEq]); (repeat' (first | (refine all2_cl ?_; (((simp only [push_cast] <;> fail "n")))) | refine And.intro ?_ ?_ | rfl | omega))); (case hr => (try simp only [push_cast, Nat.reduceBEq]); (repeat' (first | (refine cellsCv_eq ?_ ?_; (simp <;> fail "n"); (((simp only [push_cast] <;> fail "n")))) | refine And.intro ?_ ?_ | omega))); (all_goals try exact 0); (case hinj => (((simp [rhoA_0, rhoA_1]; done)))))
    rintro k hk
    rcases Nat.lt_or_ge k 8 with hk' | hk'
    · have hd := dltL (k := k) (n := 8) (by omega)
      have hw := inc64 (k := k) (by omega)
      obtain ⟨m, hm⟩ := lt_get (xs := stL (Sh.mixed s l)) (k := k) hk'
      obtain ⟨r, hr⟩ := lt_get (xs := ss) (k := k) (by omega)
      have h1 := hd_at (f := u32) hr
      have hml : (stL (Sh.mixed s l)).length = ss.length := by rw [hl8]; rfl
      have hal := addK_len hml k
      have h2 := ld_at (f := u32) (addK_at hml hm)
      have hset := addK_set hml hm hr
      have h3 := st_at' (f := u32) (ws := addK (stL (Sh.mixed s l)) ss k) (j := k) (v := .int .u32 (((m : Int) + (r : Int)) % 4294967296)) (by rw [hal, hml, hl8]; exact hk') ((m + r) % 4294967296) (by simp <;> fail "n")
      rw [hset] at h3
      have hwr : IntKind.u32.wrap ((m : Int) + (r : Int)) = ((m : Int) + (r : Int)) % 4294967296 := IntKind.wrap_u32 _
      clear hset
      (try simp only [push_cast, Int.reduceAdd, Nat.zero_lt_succ, Nat.reduceAdd, Nat.reduceBEq, Nat.reduceLeDiff, hd, hw, h1, h2, h3, hwr])
      repeat' (first | refine And.intro ?_ ?_ | omega)
      all_goals (refine rnd_to _ _ _ (k + 1) (by show k + 1 ≤ 8; omega) (by (omega)) ?_; (apply Wk.renA (fun _ => false); (case he => (try simp only [push_cast, Nat.reduceBEq]); (repeat' (first | (refine all2_cl ?_; (((simp only [push_cast] <;> fail "n")))) | refine And.intro ?_ ?_ | rfl | omega))); (case hr => (try simp only [push_cast, Nat.reduceBEq]); (repeat' (first | (refine cellsCv_eq ?_ ?_; (simp <;> fail "n"); (((simp only [push_cast] <;> fail "n")))) | refine And.intro ?_ ?_ | omega))); (all_goals try exact 0); (case hinj => (((simp [rhoA_0, rhoA_1]; done))))))
    · obtain rfl : k = 8 := by omega
      have h8 : (addK (stL (Sh.mixed s l)) ss 8).map u32 = stc (Sh.compress s l) := by rw [← hss]; rfl
      have hln : (stc (Sh.compress s l)).length = 8 := rfl
      have ht9 : List.take 8 (stc (Sh.compress s l)) = stc (Sh.compress s l) := rfl
      simp only [h8]
      (try simp only [push_cast, Nat.reduceSub, Int.reduceAdd, Nat.zero_lt_succ, Nat.reduceAdd, Nat.reduceBEq, Int.reduceLT, hln, ht9])
      repeat' (first | ((((refine ret_frz rfl ?_ ?_ ?_ ?_; rotate_left 1; (((simp only [push_cast, hln] <;> fail "n"))); (((simp only [push_cast, ht9] <;> fail "n"))); (((simp only [push_cast] <;> fail "n")))))) <;> (try simp only [push_cast, Nat.reduceBEq, *])) | ((refine cv_ptE rfl rfl rfl rfl rfl ?_) <;> (try simp only [push_cast, hln, ht9])) | (refine all2_cl ?_; (((simp only [push_cast] <;> fail "n")))))
end Go.Proofs.YtggmkfagcjdifaaDoor
