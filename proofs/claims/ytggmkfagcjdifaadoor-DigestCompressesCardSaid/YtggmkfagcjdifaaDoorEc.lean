/- Facts of the program over abstract values. No condition. -/
import Derived.Test.YtggmkfagcjdifaaDoorEb
set_option maxRecDepth 8000
namespace Go.Proofs.YtggmkfagcjdifaaDoor
set_option linter.unusedSimpArgs false
set_option linter.unusedVariables false
set_option linter.unnecessarySimpa false
set_option linter.unusedSectionVars false
open Go.Proofs.Tryd
open Go.Proofs.YtggmkfagcjdifaaDoor.Ai
set_option maxHeartbeats 4000000
set_option linter.unusedVariables false
open Go.Proofs.YtggmkfagcjdifaaDoor.Sh hiding mixed
attribute [local push_cast] stc_cl stc_one

theorem sched'_p (l : List UInt8) (hl : l.length = 64) : PCall prog 50 [.agg (l.map u8c)] (wsV (sched l)) :=
  (sched'_r l hl).still (cv_accF rfl (by rw [accOK_hd0]; trivial) (w1_len _) (w1_cl _)) (.ros _ _ (w1_cl _))
theorem addK_8' (m s : Sh.St) : (addK (stL s) (stL m) 8).map u32 = stc (m.add s) := by
  simp [addK, stL, stc, St.add, Nat.add_comm]
theorem comp'_p (s : Sh.St) (hs : s.ok) (l : List UInt8) (hl : l.length = 64) : PCall prog 28 [.agg (stc s), .agg (l.map u8c)] (.agg (stc (Sh.compress s l))) := by
  have hst : stc s = (stL s).map u32 := rfl
  have hl8 : (stL s).length = 8 := rfl
  have hst8 : stc (Sh.rounds s (sched l) 0) = stc s := rfl
  have h8 : (addK (stL s) (stL (Sh.mixed s l)) 8).map u32 = stc (Sh.compress s l) := addK_8' _ _
  generalize hss : stL s = ss at hst hl8 h8
  have ht : List.take 64 (l.map u8c) = l.map u8c := List.take_of_length_le (by simp; omega)
  have ht8 : List.take 8 (ss.map u32) = ss.map u32 := List.take_of_length_le (by simp; omega)
  have c1 := sched'_p l hl
  have c2 := consts_p
  rw [hst] at hst8
  simp only [hst]
  obtain ⟨c, hb, hl⟩ := l28
  refine pcall_of mixed e28 hb rfl hl r28 (by rw [n28]; simp) ?_
  clear hb hl c
  (try simp only [push_cast, Nat.zero_lt_succ, Nat.reduceAdd, Nat.reduceBEq, ht, hl8, hl])
  repeat' ((((((apply sc_p; (case h => first | exact c1 | exact c2); (case hc => ((simp only [push_cast]; done)))))) <;> (try simp only [push_cast, Nat.zero_lt_succ, Nat.reduceAdd, Nat.reduceBEq, *]))))
  refine w_loopS (fun k : Nat => ([(2, .pt 1 8 0 0), (4, .pt 2 8 0 0), (5, wsV (sched l)), (6, wsV Sh.rc), (7, .pt 0 8 0 0), (8, .int .i64 k)], ⟨3, [(0, ⟨8, [stc (Sh.rounds s (sched l) k)]⟩), (1, ⟨8, [ss.map u32]⟩), (2, ⟨8, [zs8]⟩)]⟩)) (fun k => k ≤ 64) (fun k => 64 - k) 0 (Nat.zero_le _) ?_ ?_
  · simp only [hst8, zs8]
    (apply Wk.renA (fun _ => false); (case he => (try simp only [push_cast, Nat.reduceBEq]); (repeat' (first | exact cv_ros_self (by ((simp only [push_cast]; done))) | refine And.intro ?_ ?_ | rfl | omega))); (case hr => (try simp only [push_cast, Nat.reduceBEq]); (repeat' (first | exact cellsCv_eq (by simp; done) (by ((simp only [push_cast]; done))) | refine And.intro ?_ ?_ | omega))); (all_goals try exact 0); (case hinj => (((simp [rhoA_0, rhoA_1, rhoA_2]; done)))))
  intro k hk
  rcases Nat.lt_or_ge k 64 with hk' | hk'
  · have hd := dltL (k := k) (n := 64) (by omega)
    have hw := inc64 (k := k) (by omega)
    obtain ⟨x, hx⟩ := lt_get (xs := sched l) (k := k) (by rw [sched_length]; exact hk')
    obtain ⟨r, hr⟩ := lt_get (xs := Sh.rc) (k := k) (by rw [rc_length]; exact hk')
    have h1 := getD_map (enc := w1) hx
    have h2 := getD_map (enc := w1) hr
    have hstep : Sh.rounds s (sched l) (k + 1) = (Sh.rounds s (sched l) k).step r x := by
      rw [Sh.rounds, List.getD_eq_getElem?_getD, List.getD_eq_getElem?_getD, hr, hx]; rfl
    have hok := rounds_ok hs (sched l) k
    have hsl : (sched l).length = 64 := sched_length l
    have hrl : Sh.rc.length = 64 := rc_length
    generalize Sh.rounds s (sched l) k = st at *
    obtain ⟨a, b, c, d, e, f, g, h⟩ := st
    obtain ⟨ha, hb, hc', hd', he, hf, hg, hh⟩ := hok
    simp only at ha hb hc' hd' he hf hg hh
    have c6 := rotr'_p e 6 he (by omega) (by omega)
    have c11 := rotr'_p e 11 he (by omega) (by omega)
    have c25 := rotr'_p e 25 he (by omega) (by omega)
    have d2 := rotr'_p a 2 ha (by omega) (by omega)
    have c13 := rotr'_p a 13 ha (by omega) (by omega)
    have c22 := rotr'_p a 22 ha (by omega) (by omega)
    have f1 := big1_bits he
    have f0 := big0_bits ha
    have f2 := ch_bits he hf hg
    have f3 := maj_bits ha hb hc'
    have fs : (if IntKind.u32.signed = true then (-1 : Int) else IntKind.u32.max) = IntKind.u32.max := rfl
    have hs8 : stc (Sh.St.mk a b c d e f g h) = [u32 a, u32 b, u32 c, u32 d, u32 e, u32 f, u32 g, u32 h] := rfl
    have e1 : IntKind.u32.wrap (IntKind.u32.wrap (IntKind.u32.wrap (IntKind.u32.wrap (IntKind.u32.wrap ((h : Int) + (big1 e : Int)) + (ch e f g : Int)) + (r : Int)) + (x : Int)) + IntKind.u32.wrap ((big0 a : Int) + (maj a b c : Int))) = (((h + big1 e + ch e f g + r + x + (big0 a + maj a b c)) % 4294967296 : Nat) : Int) := by
      simp only [IntKind.wrap_u32]; omega
    have e2 : IntKind.u32.wrap ((d : Int) + IntKind.u32.wrap (IntKind.u32.wrap (IntKind.u32.wrap (IntKind.u32.wrap ((h : Int) + (big1 e : Int)) + (ch e f g : Int)) + (r : Int)) + (x : Int))) = (((d + (h + big1 e + ch e f g + r + x)) % 4294967296 : Nat) : Int) := by
      simp only [IntKind.wrap_u32]; omega
    have hs9 : stc (Sh.rounds s (sched l) (k + 1)) = [u32 ((h + big1 e + ch e f g + r + x + (big0 a + maj a b c)) % 4294967296), u32 a, u32 b, u32 c, u32 ((d + (h + big1 e + ch e f g + r + x)) % 4294967296), u32 e, u32 f, u32 g] := by rw [hstep]; rfl
    clear hstep ha hb hc' hd' he hf hg hh
    generalize (h + big1 e + ch e f g + r + x + (big0 a + maj a b c)) % 4294967296 = y1 at *
    generalize (d + (h + big1 e + ch e f g + r + x)) % 4294967296 = y2 at *
    simp only [hs8]
    (try simp only [push_cast, Int.reduceAdd, Nat.zero_lt_succ, Nat.reduceAdd, Nat.reduceBEq, Nat.reduceLT, Nat.reduceLeDiff, Int.reduceLE, Int.reduceLT, Int.reduceToNat, hd])
    repeat' (first | ((first | (apply sc_p; (case h => first | exact d2 | exact c13 | exact c22); (case hc => ((simp only [push_cast]; done)))) | (apply cd_p; (case h => first | exact c6 | exact c11 | exact c25); (case hc => ((simp only [push_cast]; done))))) <;> (try simp only [push_cast, Int.reduceAdd, Nat.zero_lt_succ, Nat.reduceAdd, Nat.reduceBEq, Nat.reduceLT, Nat.reduceLeDiff, Int.reduceLE, Int.reduceLT, Int.reduceToNat, *])) | refine And.intro ?_ ?_ | omega)
    all_goals (refine rnd_to _ _ _ (k + 1) (by show k + 1 ≤ 64; omega) (by (omega)) ?_; (try simp only [hs9, u32]); (apply Wk.renA (fun _ => false); (case he => (try simp only [push_cast, Nat.reduceBEq]); (repeat' (first | exact cv_ros_self (by ((simp only [push_cast]; done))) | refine And.intro ?_ ?_ | rfl | omega))); (case hr => (try simp only [push_cast, Nat.reduceBEq]); (repeat' (first | exact cellsCv_eq (by simp; done) (by ((simp only [push_cast]; done))) | refine And.intro ?_ ?_ | omega))); (all_goals try exact 0); (case hinj => (((simp [rhoA_0, rhoA_1, rhoA_2]; done))))))
  · obtain rfl : k = 64 := by omega
    simp only [mixed_eq]
    (try simp only [push_cast, Nat.reduceSub, Int.reduceAdd, Nat.reduceAdd, Nat.reduceBEq, Int.reduceLT])
    have hs8 : (stL (Sh.mixed s l)).length = 8 := rfl
    have hmx : stc (Sh.mixed s l) = (stL (Sh.mixed s l)).map u32 := rfl
    simp only [hmx]
    generalize stL (Sh.mixed s l) = ms at *
    refine w_loopS (fun k : Nat => ([(2, .pt 1 8 0 0), (4, .pt 2 8 0 0), (7, .pt 0 8 0 0), (17, .int .i64 k)], ⟨3, [(0, ⟨8, [ms.map u32]⟩), (1, ⟨8, [(addK ss ms k).map u32]⟩), (2, ⟨8, [zs8]⟩)]⟩)) (fun k => k ≤ 8) (fun k => 8 - k) 0 (Nat.zero_le _) ?_ ?_
    · have h0 : (addK ss ms 0) = ss := rfl
      simp only [h0, zs8]
      (apply Wk.renA (fun _ => false); (case he => (try simp only [push_cast, Nat.reduceBEq]); (repeat' (first | refine And.intro ?_ ?_ | rfl | omega))); (case hr => (try simp only [push_cast, Nat.reduceBEq]); (repeat' (first | exact cellsCv_eq (by simp; done) (by ((simp only [push_cast]; done))) | refine And.intro ?_ ?_ | omega))); (all_goals try exact 0); (case hinj => (((simp [rhoA_0, rhoA_1, rhoA_2]; done)))))
    intro k hk
    rcases Nat.lt_or_ge k 8 with hk' | hk'
    · have hd := dltL (k := k) (n := 8) (by omega)
      have hw := inc64 (k := k) (by omega)
      obtain ⟨m, hm⟩ := lt_get (xs := ms) (k := k) (by omega)
      obtain ⟨r, hr⟩ := lt_get (xs := ss) (k := k) (by omega)
      have h1 := ld_at (f := u32) hm
      have hml : ss.length = ms.length := by omega
      have hal := addK_len hml k
      have h2 := ld_at (f := u32) (addK_at hml hr)
      have h3 := st_at' (f := u32) (ws := addK ss ms k) (j := k) (v := .int .u32 (((r : Int) + (m : Int)) % 4294967296)) (by omega) ((r + m) % 4294967296) (by simp; done)
      rw [addK_set hml hr hm] at h3
      have hwr : IntKind.u32.wrap ((r : Int) + (m : Int)) = ((r : Int) + (m : Int)) % 4294967296 := IntKind.wrap_u32 _
      clear hal hml
      (try simp only [push_cast, Int.reduceAdd, Nat.zero_lt_succ, Nat.reduceAdd, Nat.reduceBEq, Nat.reduceLT, Nat.reduceLeDiff, hd, hw, h1, h2, h3, hwr])
      repeat' (first | refine And.intro ?_ ?_ | omega)
      all_goals (refine rnd_to _ _ _ (k + 1) (by show k + 1 ≤ 8; omega) (by (omega)) ?_; (apply Wk.renA (fun _ => false); (case he => (try simp only [push_cast, Nat.reduceBEq]); (repeat' (first | refine And.intro ?_ ?_ | rfl | omega))); (case hr => (try simp only [push_cast, Nat.reduceBEq]); (repeat' (first | exact cellsCv_eq (by simp; done) (by ((simp only [push_cast]; done))) | refine And.intro ?_ ?_ | omega))); (all_goals try exact 0); (case hinj => (((simp [rhoA_0, rhoA_1, rhoA_2]; done))))))
    · obtain rfl : k = 8 := by omega
      have hln : (stc (Sh.compress s l)).length = 8 := rfl
      have ht9 : List.take 8 (stc (Sh.compress s l)) = stc (Sh.compress s l) := rfl
      simp only [h8]
      (try simp only [push_cast, Nat.reduceSub, Int.reduceAdd, Nat.zero_lt_succ, Nat.reduceAdd, Nat.reduceBEq, Int.reduceLT, hln, ht9])
      repeat' (first | (((refine ret_frz rfl ?_ (by ((simp only [push_cast, hln]; done))) (by ((simp only [push_cast, ht9]; done))) (by ((simp only [push_cast]; done))))) <;> (try simp only [push_cast, Nat.reduceBEq, *])) | ((refine cv_ptE rfl rfl rfl rfl rfl ?_) <;> (try simp only [push_cast, hln, ht9])) | exact all2_cl (by ((simp only [push_cast]; done))))
end Go.Proofs.YtggmkfagcjdifaaDoor
