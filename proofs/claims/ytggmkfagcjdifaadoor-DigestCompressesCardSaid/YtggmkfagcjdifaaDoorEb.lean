/- Facts of the program over abstract values. No condition. -/
import Derived.Test.YtggmkfagcjdifaaDoorEa
set_option maxRecDepth 60000
namespace Go.Proofs.YtggmkfagcjdifaaDoor
set_option linter.unusedSimpArgs false
set_option linter.unusedVariables false
set_option linter.unnecessarySimpa false
set_option linter.unusedSectionVars false
open Go.Proofs.Tryd
open Go.Proofs.YtggmkfagcjdifaaDoor.Ai
set_option maxHeartbeats 4000000
set_option linter.unusedVariables false
open Go.Proofs.YtggmkfagcjdifaaDoor.Sh hiding mixed
attribute [local push_cast] stc_cl stc_one

abbrev w1 (n : Nat) : List AV := [u32 n]
theorem consts_p : PCall prog 51 [] (.ros 1 (Sh.rc.map w1)) := by
  conv => rhs; unfold Sh.rc
  simp only [List.map_cons, List.map_nil]
  obtain ⟨c, hb, hl⟩ := l51
  refine pcall_of mixed e51 hb rfl hl r51 (by rw [n51]; simp) ?_
  clear hb hl c
  (try simp only [push_cast, Nat.zero_lt_succ, Nat.reduceAdd, Nat.reduceBEq, Nat.reducePow, Nat.reduceLT, Nat.reduceLeDiff])
  repeat' (first | (((refine ret_frz rfl ?_ (by ((simp only [push_cast]; done))) (by ((simp only [push_cast]; done))) (by ((simp only [push_cast]; done))))) <;> (try simp only [push_cast, Nat.reduceBEq, *])) | exact cv_slE rfl rfl ⟨rfl, rfl⟩ (by simp; done) (by simp; done))
abbrev wsV (ws : List Nat) : AV := .ros 1 (ws.map w1)
theorem w1_len (l : List Nat) : ∀ x ∈ l.map w1, x.length = 1 := fun x hx => by obtain ⟨b, _, rfl⟩ := List.mem_map.1 hx; rfl
theorem w1_cl (l : List Nat) : ∀ x ∈ l.map w1, ∀ v ∈ x, Cl v := by simp only [push_cast]
theorem words_at (l : List UInt8) {i j : Nat} (h : j < i) : (words l i)[j]? = some ((words l i).getD j 0) := by
  rw [List.getD_eq_getElem?_getD, List.getElem?_eq_getElem (by rw [words_length]; exact h)]; rfl
theorem sig0_bits {x : Nat} (hx : x < 4294967296) : Go.bits .xor .u32 (Go.bits .xor .u32 (Sh.rotr x 7 : Int) (Sh.rotr x 18 : Int)) ((x / 8 : Nat) : Int) = (sig0 x : Int) := by
  have h7 := rotr_lt (n := 7) hx (by omega)
  have h18 := rotr_lt (n := 18) hx (by omega)
  rw [xor_u32 h7 h18, xor_u32 (xor_lt h7 h18) (by omega)]; rfl
theorem sig1_bits {x : Nat} (hx : x < 4294967296) : Go.bits .xor .u32 (Go.bits .xor .u32 (Sh.rotr x 17 : Int) (Sh.rotr x 19 : Int)) ((x / 1024 : Nat) : Int) = (sig1 x : Int) := by
  have h7 := rotr_lt (n := 17) hx (by omega)
  have h18 := rotr_lt (n := 19) hx (by omega)
  rw [xor_u32 h7 h18, xor_u32 (xor_lt h7 h18) (by omega)]; rfl
theorem sched'_r (l : List UInt8) (hl : l.length = 64) : RCall prog 50 [.agg (l.map u8c)] 0 1 (accR 0 1 ((sched l).map w1)) (accV 0 1 ((sched l).map w1)) := by
  have hsl := sched_length l
  have hp64 : words l 64 = sched l := by have := padded_full l; unfold padded at this; simpa using this
  refine SCall.r ?_ (look_lt (all_acc fun r => rfl))
  obtain ⟨c, hb, hl⟩ := l50
  refine scall_of mixed e50 hb rfl hl r50 (by rw [n50]; simp) ?_
  clear hb hl c
  (try simp only [push_cast, Nat.reduceAdd])
  refine w_loopS (fun i : Nat => ([(1, .rop (l.map u8c)), (3, accV 0 1 ((words l i).map w1)), (4, .int .i64 i)], ⟨1, accR 0 1 ((words l i).map w1)⟩)) (fun i => i ≤ 64) (fun i => 64 - i) 0 (Nat.zero_le _) ?_ ?_
  · simp only [words, List.map_nil, accV, accR]
    (apply Wk.renA (fun i => i == 0); (case he => (try simp only [push_cast, Nat.reduceBEq]); (repeat' (first | (refine cv_ptE rfl rfl rfl (by simp; done) (by ((simp; done))) ?_; simp only [push_cast]) | exact all2_cl (by ((simp only [push_cast]; done)))))); (case hr => (try simp only [push_cast]); (skip)); (all_goals try exact 0); (case hinj => (((simp; done)))))
  intro i hi
  rcases Nat.lt_or_ge i 64 with hi' | hi'
  · have hd := dltL (k := i) (n := 64) (by omega)
    have hw := inc64 (k := i) (by omega)
    have hwl := words_length l i
    have hs : (words l (i + 1)).map w1 = (words l i).map w1 ++ [w1 (nextWord l (words l i) i)] := by simp [words]
    have hnl := nextWord_lt l (words l i) i
    rcases Nat.lt_or_ge i 16 with h16 | h16
    · have hd2 := dltL (k := i) (n := 16) (by omega)
      have hnw : nextWord l (words l i) i = val ((l.drop (4 * i)).take 4) := by unfold nextWord; rw [if_pos h16]
      rw [hnw] at hs hnl
      obtain ⟨m, hm⟩ : ∃ m, m = 4 * i := ⟨_, rfl⟩
      have f1 : IntKind.i64.wrap (4 * (i : Int)) = (m : Int) := by rw [i64_id] <;> omega
      have f2 : IntKind.i64.wrap ((m : Int) + 4) = (m : Int) + 4 := i64_id (by omega) (by omega)
      have f3 : List.map (fun c => [c]) (List.take (m + 4 - m) (List.drop m (l.map u8c))) = ((l.drop m).take 4).map b1 := by
        rw [show m + 4 - m = 4 from by omega, ← List.map_drop, ← List.map_take, ← flat1]
      have f4 : ((m : Int) + 4).toNat = m + 4 := by omega
      have k1 : m + 4 ≤ 64 := by omega
      rw [← hm] at hs hnl
      have c := value_p ((l.drop m).take 4) (by simp; omega)
      have f5 : IntKind.u32.wrap (val ((l.drop m).take 4) : Int) = (val ((l.drop m).take 4) : Int) := by rw [IntKind.wrap_u32]; omega
      generalize val ((l.drop m).take 4) = v at *
      generalize ((l.drop m).take 4) = l4 at *
      generalize words l i = ws at *
      clear hm hnw
      have hb : ws.length + 1 ≤ 140737488355328 := by omega
      have hb2 : ws.length + 1 ≤ 9223372036854775807 := by omega
      (try simp only [push_cast, Int.reduceAdd, Nat.reduceAdd, Nat.reduceBEq, hd, hd2, f1, f2, f3, f4, hl])
      repeat' (first | ((((apply sc_p; (case h => (exact c)); (case hc => ((simp only [push_cast]; done)))))) <;> (try simp only [push_cast, Nat.zero_lt_succ, Nat.reduceAdd, Nat.reduceBEq, Nat.reducePow, Nat.reduceLeDiff, *])) | refine And.intro ?_ ?_ | omega)
      all_goals (refine rnd_to _ _ _ (i + 1) hi' (by (omega)) ?_; (try simp only [hs]); (apply Wk.renA (fun _ => false); (case he => (try simp only [push_cast, Nat.reduceBEq]); (repeat' (first | exact all2_cl (by ((simp only [push_cast]; done))) | exact cv_acc rfl | exact bel_acc (by omega) | refine And.intro ?_ ?_))); (case hr => (try simp only [push_cast]); (repeat' ((exact rowsAll_acc0 (by ((simp only [push_cast]; done))) (by ((simp only [push_cast]; done))) (by ((simp only [push_cast]; done))) (by ((simp only [push_cast]; done))))))); (all_goals try exact 0); (case hinj => (((apply inj_of; (case h => (try dsimp only); repeat' (exact keysIn_acc0)); (case hi => unfold injK; (decide))))))))
    · have hd2 := dgeL (k := i) (n := 16) (by omega)
      rw [nextWord_late l _ h16] at hs hnl
      obtain ⟨a, ha⟩ : ∃ a, a = i - 16 := ⟨_, rfl⟩
      obtain ⟨b, hb⟩ : ∃ b, b = i - 15 := ⟨_, rfl⟩
      obtain ⟨c, hc⟩ : ∃ c, c = i - 7 := ⟨_, rfl⟩
      obtain ⟨d, hd'⟩ : ∃ d, d = i - 2 := ⟨_, rfl⟩
      have h1 : IntKind.i64.wrap ((i : Int) - 16) = (a : Int) := by rw [i64_id] <;> omega
      have h2 : IntKind.i64.wrap ((i : Int) - 15) = (b : Int) := by rw [i64_id] <;> omega
      have h3 : IntKind.i64.wrap ((i : Int) - 7) = (c : Int) := by rw [i64_id] <;> omega
      have h4 : IntKind.i64.wrap ((i : Int) - 2) = (d : Int) := by rw [i64_id] <;> omega
      have g1 := getD_map (enc := w1) (words_at l (i := i) (j := a) (by omega))
      have g2 := getD_map (enc := w1) (words_at l (i := i) (j := b) (by omega))
      have g3 := getD_map (enc := w1) (words_at l (i := i) (j := c) (by omega))
      have g4 := getD_map (enc := w1) (words_at l (i := i) (j := d) (by omega))
      rw [← ha, ← hb, ← hc, ← hd'] at hs hnl
      have lb := words_at_lt l i b
      have ld := words_at_lt l i d
      have k0 : decide (0 < (words l i).length) = true := by rw [hwl]; simp; omega
      have k1 : decide ((a : Int) < ((words l i).length : Int)) = true := by rw [hwl]; simp; omega
      have k2 : decide ((b : Int) < ((words l i).length : Int)) = true := by rw [hwl]; simp; omega
      have k3 : decide ((c : Int) < ((words l i).length : Int)) = true := by rw [hwl]; simp; omega
      have k4 : decide ((d : Int) < ((words l i).length : Int)) = true := by rw [hwl]; simp; omega
      have m1 : a < (words l i).length := by omega
      have m2 : b < (words l i).length := by omega
      have m3 : c < (words l i).length := by omega
      have m4 : d < (words l i).length := by omega
      have hb1 : ((words l i).length + 1) * 4 ≤ 140737488355328 := by omega
      have hb2 : (words l i).length + 1 ≤ 9223372036854775807 := by omega
      generalize (words l i).getD a 0 = x1 at *
      generalize (words l i).getD b 0 = x2 at *
      generalize (words l i).getD c 0 = x3 at *
      generalize (words l i).getD d 0 = x4 at *
      generalize words l i = ws at *
      have r1 := rotr'_p x2 7 lb (by omega) (by omega)
      have r2 := rotr'_p x2 18 lb (by omega) (by omega)
      have r3 := rotr'_p x4 17 ld (by omega) (by omega)
      have r4 := rotr'_p x4 19 ld (by omega) (by omega)
      have p3 := power_p 3 (by omega)
      have p10 := power_p 10 (by omega)
      rw [P2_eq] at p3 p10
      have hx1 := sig0_bits lb
      have hx2 := sig1_bits ld
      have hdx : IntKind.u32.wrap ((x2 : Int).tdiv 8) = ((x2 / 8 : Nat) : Int) := by rw [Int.tdiv_eq_ediv_of_nonneg (by omega), IntKind.wrap_u32]; omega
      have hdy : IntKind.u32.wrap ((x4 : Int).tdiv 1024) = ((x4 / 1024 : Nat) : Int) := by rw [Int.tdiv_eq_ediv_of_nonneg (by omega), IntKind.wrap_u32]; omega
      have hsum : IntKind.u32.wrap (IntKind.u32.wrap (IntKind.u32.wrap ((x1 : Int) + (sig0 x2 : Int)) + (x3 : Int)) + (sig1 x4 : Int)) = (((x1 + sig0 x2 + x3 + sig1 x4) % 4294967296 : Nat) : Int) := by simp only [IntKind.wrap_u32]; omega
      generalize x2 / 8 = y2 at *
      generalize x4 / 1024 = y4 at *
      generalize (x1 + sig0 x2 + x3 + sig1 x4) % 4294967296 = nw at *
      clear ha hb hc hd'
      clear hwl
      (try simp only [push_cast, Nat.zero_lt_succ, Nat.reduceAdd, Nat.reduceBEq, hd, hd2, h2, g2, k0, k2, m2])
      repeat' (first | ((((apply cd_p; (case h => first | exact r1 | exact r2 | exact r3 | exact r4 | exact p3 | exact p10); (case hc => ((simp only [push_cast]; done)))))) <;> (try simp only [push_cast, Int.reduceAdd, Nat.zero_lt_succ, Nat.reduceAdd, Nat.reduceBEq, Nat.reducePow, Nat.reduceLeDiff, Int.reduceEq, *])) | refine And.intro ?_ ?_ | omega)
      all_goals (refine rnd_to _ _ _ (i + 1) hi' (by (omega)) ?_; (try simp only [hs]); (apply Wk.renA (fun _ => false); (case he => (try simp only [push_cast, Nat.reduceBEq]); (repeat' (first | exact all2_cl (by ((simp only [push_cast]; done))) | exact cv_acc rfl | exact bel_acc (by omega) | refine And.intro ?_ ?_))); (case hr => (try simp only [push_cast]); (repeat' ((exact rowsAll_acc0 (by ((simp only [push_cast]; done))) (by ((simp only [push_cast]; done))) (by ((simp only [push_cast]; done))) (by ((simp only [push_cast]; done))))))); (all_goals try exact 0); (case hinj => (((apply inj_of; (case h => (try dsimp only); repeat' (exact keysIn_acc0)); (case hi => unfold injK; (decide))))))))
  · obtain rfl : i = 64 := by omega
    simp only [hp64]
    (try simp only [push_cast, Nat.reduceSub, Int.reduceAdd, Nat.reduceAdd, Nat.reduceBEq, Int.reduceLT])
    all_goals (refine outQ_ret rfl ?_ (by simp [push_cast]; done) (by simp [push_cast]; done); (apply Wk.renA (fun _ => false); (case he => (try simp only [push_cast, Nat.reduceBEq]); (repeat' (first | exact cv_acc rfl | exact bel_acc (by omega) | refine And.intro ?_ ?_))); (case hr => (try simp only [push_cast]); (repeat' ((exact rowsAll_acc0 (by ((simp only [push_cast]; done))) (by ((simp only [push_cast]; done))) (by ((simp only [push_cast]; done))) (by ((simp only [push_cast]; done))))))); (all_goals try exact 0); (case hinj => (((apply inj_of; (case h => (try dsimp only); repeat' (exact keysIn_acc0)); (case hi => unfold injK; (decide))))))))
end Go.Proofs.YtggmkfagcjdifaaDoor
