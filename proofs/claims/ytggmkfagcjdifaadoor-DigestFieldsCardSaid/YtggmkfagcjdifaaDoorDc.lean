/- Facts of the program over abstract values. No condition. -/
import Derived.Test.YtggmkfagcjdifaaDoorDb
import Derived.Test.YtggmkfagcjdifaaDoorAiZf
set_option maxRecDepth 8000
namespace Go.Proofs.YtggmkfagcjdifaaDoor
set_option linter.unusedSimpArgs false
set_option linter.unusedVariables false
set_option linter.unnecessarySimpa false
set_option linter.unusedSectionVars false
open Go.Proofs.Tryd
open Go.Proofs.YtggmkfagcjdifaaDoor.Ai
set_option maxHeartbeats 4000000
set_option linter.unusedVariables false
open Go.Proofs.YtggmkfagcjdifaaDoor.Sh hiding mixed

abbrev u8c (b : UInt8) : AV := .int .u8 (b.toNat : Int)
theorem sched_p (l : List UInt8) (hl : l.length = 64) : PCall prog 49 [.agg (l.map u8c)] (.agg ((sched l).map u32)) := by
  have h0 : (partWords l 0).map u32 = rep 64 (.int .u32 0) := by rw [partWords_zero]; exact rep_map.symm
  have ht : List.take 64 (l.map u8c) = l.map u8c := List.take_of_length_le (by simp; omega)
  obtain ⟨c, hb, hl⟩ := l49
  refine pcall_of mixed e49 hb rfl hl r49 (by rw [n49]; simp) ?_
  clear hb hl c
  (try simp only [push_cast, Nat.zero_lt_succ, Nat.reduceAdd, Nat.reduceBEq, ht])
  repeat' (first | refine And.intro ?_ ?_ | omega)
  refine w_loopS (fun k : Nat => ([(2, .pt 1 64 0 0), (3, .pt 0 64 0 0), (4, .fn (.func 61) [] []), (5, .fn (.func 62) [] []), (9, .agg (l.map u8c)), (10, .int .i64 k)], ⟨2, [(0, ⟨64, [(partWords l k).map u32]⟩), (1, ⟨64, [rep 64 (.int .u32 0)]⟩)]⟩)) (fun k => k ≤ 64) (fun k => 64 - k) 0 (Nat.zero_le _) ?_ ?_
  · simp only [h0]
    (apply Wk.renA (fun _ => false); (case he => (try simp only [push_cast, Nat.reduceBEq]); (repeat' (first | (refine all2_cl ?_; (((simp only [push_cast] <;> fail "n")))) | refine And.intro ?_ ?_ | rfl | omega))); (case hr => (try simp only [push_cast, Nat.reduceBEq]); (repeat' (first | (refine cellsCv_eq ?_ ?_; (simp <;> fail "n"); (((simp [push_cast] <;> fail "n")))) | refine And.intro ?_ ?_ | omega))); (all_goals try exact 0); (case hinj => (((simp [rhoA_0, rhoA_1]; done)))))
  rintro k hk
  rcases Nat.lt_or_ge k 64 with hk' | hk'
  · obtain ⟨x, hx⟩ := lt_get (xs := l) (k := k) (by omega)
    have hd := dltL (k := k) (n := 64) (by omega)
    have h1 := hd_at (f := u8c) hx
    have hw := inc64 (k := k) (by omega)
    obtain ⟨q, hq, hqi⟩ := div64 k 4 (by omega) (by omega)
    have hq : q = k / 4 := by omega
    have hp := partWords_at l k q (by omega)
    have h2 := ld_at (f := u32) hp
    have hv : val (List.take 4 (List.drop (4 * q) (List.take k l))) < 16777216 := part_lt l (by omega)
    have hst := partWords_step l hx hk'
    rw [← hq] at hst
    generalize val (List.take 4 (List.drop (4 * q) (List.take k l))) = v at *
    have hx8 := x.toNat_lt
    have hw8 : IntKind.u32.wrap ((v : Int) * 2 ^ min 8 IntKind.u32.bits) = (v : Int) * 256 := by rw [IntKind.wrap_u32, show min 8 IntKind.u32.bits = 8 from rfl]; omega
    have hwx : IntKind.u32.wrap (x.toNat : Int) = (x.toNat : Int) := by rw [IntKind.wrap_u32]; omega
    have hor := or_byte32 v x hv
    have hs := st_at' (f := u32) (ws := partWords l k) (j := q) (v := .int .u32 (256 * ↑v + ↑x.toNat)) (by rw [partWords_length]; omega) (256 * v + x.toNat) (by simp <;> fail "n")
    clear hq
    rw [← hst] at hs
    (try simp only [push_cast, Int.reduceAdd, Nat.zero_lt_succ, Nat.reduceAdd, Nat.reduceBEq, Nat.reduceLeDiff, Int.reduceLE, Int.reduceEq, Int.reduceToNat, hd, h1, hw, hqi, h2, hs, hw8, hwx, hor])
    repeat' (first | refine And.intro ?_ ?_ | omega)
    (refine rnd_to _ _ _ (k + 1) (by show k + 1 ≤ 64; omega) (by (omega)) ?_; (apply Wk.renA (fun _ => false); (case he => (try simp only [push_cast, Nat.reduceBEq]); (repeat' (first | (refine all2_cl ?_; (((simp only [push_cast] <;> fail "n")))) | refine And.intro ?_ ?_ | rfl | omega))); (case hr => (try simp only [push_cast, Nat.reduceBEq]); (repeat' (first | (refine cellsCv_eq ?_ ?_; (simp <;> fail "n"); (first | (simp only [push_cast] <;> fail "n") | (simp [push_cast] <;> fail "n"))) | refine And.intro ?_ ?_ | omega))); (all_goals try exact 0); (case hinj => (((simp [rhoA_0, rhoA_1]; done))))))
  · obtain rfl : k = 64 := by omega
    have hp : partWords l 64 = padded l 16 := partWords_full l hl
    simp only [hp]
    (try simp only [push_cast, Nat.reduceSub, Int.reduceAdd, Nat.reduceAdd, Nat.reduceBEq, Int.reduceLT])
    refine w_loopS (fun i : Nat => ([(2, .pt 1 64 0 0), (3, .pt 0 64 0 0), (4, .fn (.func 61) [] []), (5, .fn (.func 62) [] []), (8, .int .i64 i)], ⟨2, [(0, ⟨64, [(padded l i).map u32]⟩), (1, ⟨64, [rep 64 (.int .u32 0)]⟩)]⟩)) (fun i => 16 ≤ i ∧ i ≤ 64) (fun i => 64 - i) 16 ⟨by omega, by omega⟩ ?_ ?_
    · (apply Wk.renA (fun _ => false); (case he => (try simp only [push_cast, Nat.reduceBEq]); (repeat' (first | refine And.intro ?_ ?_ | rfl | omega))); (case hr => (try simp only [push_cast, Nat.reduceBEq]); (repeat' (first | (refine cellsCv_eq ?_ ?_; (simp <;> fail "n"); (first | (simp only [push_cast] <;> fail "n") | (simp [push_cast] <;> fail "n"))) | refine And.intro ?_ ?_ | omega))); (all_goals try exact 0); (case hinj => (((simp [rhoA_0, rhoA_1]; done)))))
    rintro i ⟨hi1, hi2⟩
    rcases Nat.lt_or_ge i 64 with hi' | hi'
    · have hd := dltL (k := i) (n := 64) (by omega)
      have hw := inc64 (k := i) (by omega)
      have hstep := padded_step l hi'
      rw [nextWord_late l _ hi1] at hstep
      obtain ⟨a, ha⟩ : ∃ a, a = i - 16 := ⟨_, rfl⟩
      obtain ⟨b, hb⟩ : ∃ b, b = i - 15 := ⟨_, rfl⟩
      obtain ⟨c, hc⟩ : ∃ c, c = i - 7 := ⟨_, rfl⟩
      obtain ⟨d, hd'⟩ : ∃ d, d = i - 2 := ⟨_, rfl⟩
      have h1 : IntKind.i64.wrap ((i : Int) - 16) = (a : Int) := by rw [i64_id] <;> omega
      have h2 : IntKind.i64.wrap ((i : Int) - 15) = (b : Int) := by rw [i64_id] <;> omega
      have h3 : IntKind.i64.wrap ((i : Int) - 7) = (c : Int) := by rw [i64_id] <;> omega
      have h4 : IntKind.i64.wrap ((i : Int) - 2) = (d : Int) := by rw [i64_id] <;> omega
      have g1 := ld_at (f := u32) (padded_at l (i := i) (j := a) (by omega))
      have g2 := ld_at (f := u32) (padded_at l (i := i) (j := b) (by omega))
      have g3 := ld_at (f := u32) (padded_at l (i := i) (j := c) (by omega))
      have g4 := ld_at (f := u32) (padded_at l (i := i) (j := d) (by omega))
      rw [← ha, ← hb, ← hc, ← hd'] at hstep
      have lb := words_at_lt l i b
      have ld := words_at_lt l i d
      generalize (words l i).getD a 0 = x1 at *
      generalize (words l i).getD b 0 = x2 at *
      generalize (words l i).getD c 0 = x3 at *
      generalize (words l i).getD d 0 = x4 at *
      have e := early_p x2 lb
      have t := late_p x4 ld
      have hs := st_at' (f := u32) (ws := padded l i) (j := i) (v := .int .u32 ((((x1 : Int) + (sig0 x2 : Int) + (x3 : Int) + (sig1 x4 : Int)) % 4294967296))) (by rw [padded_length l hi2]; omega) _ (by rw [sum4])
      rw [← hstep] at hs
      have hwr : IntKind.u32.wrap (IntKind.u32.wrap (IntKind.u32.wrap ((x1 : Int) + (sig0 x2 : Int)) + (x3 : Int)) + (sig1 x4 : Int)) = ((x1 : Int) + (sig0 x2 : Int) + (x3 : Int) + (sig1 x4 : Int)) % 4294967296 := by simp only [IntKind.wrap_u32]; omega
      have k1 : a ≤ 63 := by omega
      have k2 : b ≤ 63 := by omega
      have k3 : c ≤ 63 := by omega
      have k4 : d ≤ 63 := by omega
      clear ha hb hc hd' hstep lb ld
      (try simp only [push_cast, Int.reduceAdd, Nat.zero_lt_succ, Nat.reduceAdd, Nat.reduceBEq, Nat.reduceLT, Nat.reduceLeDiff, hd, h1, h2, g1, g2])
      repeat' (first | ((((apply cd_p; (case h => first | exact e | exact t); (case hc => ((simp only [push_cast] <;> fail "n")))))) <;> (try simp only [push_cast, Int.reduceAdd, Nat.zero_lt_succ, Nat.reduceAdd, Nat.reduceBEq, Nat.reduceLT, Nat.reduceLeDiff, *])) | refine And.intro ?_ ?_ | omega)
      (refine rnd_to _ _ _ (i + 1) ⟨by omega, by omega⟩ (by (omega)) ?_; (apply Wk.renA (fun _ => false); (case he => (try simp only [push_cast, Nat.reduceBEq]); (repeat' (first | refine And.intro ?_ ?_ | rfl | omega))); (case hr => (try simp only [push_cast, Nat.reduceBEq]); (repeat' (first | (refine cellsCv_eq ?_ ?_; (simp <;> fail "n"); (first | (simp only [push_cast] <;> fail "n") | (simp [push_cast] <;> fail "n"))) | refine And.intro ?_ ?_ | omega))); (all_goals try exact 0); (case hinj => (((simp [rhoA_0, rhoA_1]; done))))))
    · obtain rfl : i = 64 := by omega
      simp only [padded_full]
      have hsl := sched_length l
      have hdr : List.drop 64 (rep 64 (.int .u32 0)) = [] := List.drop_of_length_le (by rw [rep_len]; omega)
      have hq : List.take 64 ((sched l).map u32) = (sched l).map u32 := List.take_of_length_le (by simp [hsl] <;> fail "n")
      (try simp only [push_cast, Nat.reduceSub, Int.reduceAdd, Nat.zero_lt_succ, Nat.reduceAdd, Nat.reduceBEq, Int.reduceLT, hq, hsl, hdr])
      repeat' (first | ((((refine ret_frz rfl ?_ ?_ ?_ ?_; rotate_left 1; (((simp only [push_cast, hsl] <;> fail "n"))); (((simp only [push_cast, hq] <;> fail "n"))); (((simp only [push_cast] <;> fail "n")))))) <;> (try simp only [push_cast, Nat.reduceBEq, *])) | ((((refine cv_ptE rfl rfl rfl ?_ ?_ ?_; (simp <;> fail "n"); (((simp only [push_cast, hsl] <;> fail "n"))); rotate_left 1))) <;> (try simp only [push_cast, hq, hsl])) | (refine all2_cl ?_; (((simp only [push_cast] <;> fail "n")))))
end Go.Proofs.YtggmkfagcjdifaaDoor
