/- Facts of the program over abstract values. No condition. -/
import Derived.Test.YtggmkfagcjdifaaDoorFk
set_option maxRecDepth 8000
namespace Go.Proofs.YtggmkfagcjdifaaDoor
set_option linter.unusedSimpArgs false
set_option linter.unusedVariables false
set_option linter.unnecessarySimpa false
set_option linter.unusedSectionVars false
open Go.Proofs.Tryd
open Go.Proofs.YtggmkfagcjdifaaDoor.Ai
set_option maxHeartbeats 4000000
set_option linter.unusedVariables false
open Go.Proofs.YtggmkfagcjdifaaDoor.Sh hiding mixed

theorem law12 (key b : List UInt8) (zeros bit : UInt8) (hk : key.length < 2 ^ 48) (hl : b.length < 2 ^ 48) : PCall prog 12 [bsV key, bsV b, u8c zeros, u8c bit] (.bool true) := by
  have ca := alive_p
  have c1 := tag_p key b hk hl
  simp only [tagS] at c1
  have hdr : List.drop 32 (rep 32 (.int .u8 0)) = [] := List.drop_of_length_le (by rw [rep_len]; omega)
  have htz : List.take 32 (rep 32 (AV.int .u8 0)) = rep 32 (AV.int .u8 0) := List.take_of_length_le (by rw [rep_len]; omega)
  by_cases h1 : (key.length : Int) < 1
  · have hd : decide ((key.length : Int) < 1) = true := by simpa using h1
    simp only [hd, Bool.true_or, cond_true] at c1
    obtain ⟨c, hb, hl⟩ := l12
    refine pcall_of mixed e12 hb rfl hl r12 (by rw [n12]; simp) ?_
    clear hb hl c
    (try simp only [push_cast, Nat.reduceAdd])
    repeat' ((((first | (apply sc_p; (case h => first | exact ca | exact c1); (case hc => ((simp only [push_cast] <;> fail "n")))) | (refine ret_frz rfl ?_ ?_ ?_ ?_; rotate_left 1; (((simp only [push_cast] <;> fail "n"))); (((simp only [push_cast] <;> fail "n"))); (((simp only [push_cast] <;> fail "n"))))) <;> (try simp only [push_cast, Nat.zero_lt_succ, Nat.reduceAdd, Nat.reduceBEq, reduceCtorEq, *]))))
  by_cases h2 : (key.length : Int) > 64
  · have hd : decide ((key.length : Int) < 1) = false := by simpa using h1
    have hd2 : decide ((key.length : Int) > 64) = true := by simpa using h2
    simp only [hd, hd2, Bool.false_or, cond_true] at c1
    obtain ⟨c, hb, hl⟩ := l12
    refine pcall_of mixed e12 hb rfl hl r12 (by rw [n12]; simp) ?_
    clear hb hl c
    (try simp only [push_cast, Nat.reduceAdd])
    repeat' ((((first | (apply sc_p; (case h => first | exact ca | exact c1); (case hc => ((simp only [push_cast] <;> fail "n")))) | (refine ret_frz rfl ?_ ?_ ?_ ?_; rotate_left 1; (((simp only [push_cast] <;> fail "n"))); (((simp only [push_cast] <;> fail "n"))); (((simp only [push_cast] <;> fail "n"))))) <;> (try simp only [push_cast, Nat.zero_lt_succ, Nat.reduceAdd, Nat.reduceBEq, reduceCtorEq, *]))))
  have hd : decide ((key.length : Int) < 1) = false := by simpa using h1
  have hd2 : decide ((key.length : Int) > 64) = false := by simpa using h2
  simp only [hd, hd2, Bool.or_self, cond_false] at c1
  by_cases h3 : (b.length : Int) > 8128
  · have hd3 : decide ((b.length : Int) > 8128) = true := by simpa using h3
    simp only [hd3, cond_true] at c1
    obtain ⟨c, hb, hl⟩ := l12
    refine pcall_of mixed e12 hb rfl hl r12 (by rw [n12]; simp) ?_
    clear hb hl c
    (try simp only [push_cast, Nat.reduceAdd])
    repeat' ((((first | (apply sc_p; (case h => first | exact ca | exact c1); (case hc => ((simp only [push_cast] <;> fail "n")))) | (refine ret_frz rfl ?_ ?_ ?_ ?_; rotate_left 1; (((simp only [push_cast] <;> fail "n"))); (((simp only [push_cast] <;> fail "n"))); (((simp only [push_cast] <;> fail "n"))))) <;> (try simp only [push_cast, Nat.zero_lt_succ, Nat.reduceAdd, Nat.reduceBEq, reduceCtorEq, *]))))
  have hd3 : decide ((b.length : Int) > 8128) = false := by simpa using h3
  simp only [hd3, cond_false] at c1
  have hT := tagB_length key b
  have hYe : id (tagB key b = shaB ((key64 key).map (· ^^^ 92) ++ shaB ((key64 key).map (· ^^^ 54) ++ b))) := by show _ = _; rw [tagB_eq, shaB_eq, shaB_eq]
  have hTn : ∀ n, key.length ≤ n → n ≤ 64 → tagB ((key64 key).take n) b = tagB key b := fun n h1 h2 => by unfold tagB; rw [key64_take h1 h2]
  have cv := verify_p key b
  simp only [hd, hd2, hd3, Bool.or_self, cond_false] at cv
  generalize tagB key b = T at *
  have ht1 : List.take 32 (T.map u8c) = T.map u8c := List.take_of_length_le (by simp; omega)
  have hbk : key.length ≤ 140737488355328 := by omega
  have hbk2 : key.length ≤ 9223372036854775807 := by omega
  have hKl := key64_length (key := key) (by omega)
  have hkz := kz_full key
  obtain ⟨c, hb, hl⟩ := l12
  refine pcall_of mixed e12 hb rfl hl r12 (by rw [n12]; simp) ?_
  clear hb hl c
  (try simp only [push_cast, Nat.reduceAdd])
  repeat' ((((((apply sc_p; (case h => first | exact ca | exact c1); (case hc => ((simp only [push_cast] <;> fail "n")))))) <;> (try simp only [push_cast, Nat.zero_lt_succ, Nat.reduceAdd, Nat.reduceBEq, Nat.reducePow, Nat.reduceLeDiff, reduceCtorEq, *]))))
  refine w_loopS (fun j : Nat => ([(0, bsV key), (1, bsV b), (2, u8c zeros), (3, u8c bit), (9, .bool true), (10, .pt 1 32 0 0), (11, .int .i64 0), (12, eV 0 1 ((kz key j).map b1))], ⟨2, [(0, ⟨1, (kz key j).map b1⟩), (1, ⟨32, [T.map u8c]⟩)]⟩)) (fun j => key.length + j ≤ 64) (fun j => 64 - j) 0 (by omega) ?_ ?_
  · have h0 : kz key 0 = key := by simp [kz]
    simp only [h0]
    (apply Wk.renA (fun _ => false); (case he => (try simp only [push_cast, Nat.reduceBEq]); (repeat' (first | (refine cv_ros_self ?_; (((simp only [push_cast] <;> fail "n")))) | exact cv_eV rfl | (refine bel_eV ?_; (omega)) | refine And.intro ?_ ?_ | rfl))); (case hr => (try simp only [push_cast, Nat.reduceBEq]); (repeat' (first | (refine cellsCv_eq ?_ ?_; (simp <;> fail "n"); (((simp only [push_cast] <;> fail "n")))) | refine And.intro ?_ ?_ | omega))); (all_goals try exact 0); (case hinj => (((simp [rhoA_0, rhoA_1]; done)))))
  intro j hj
  have hln := kz_len key j
  rcases Nat.lt_or_ge (key.length + j) 64 with hj' | hj'
  · have hdl : decide (((kz key j).length : Int) < 64) = true := by simp; omega
    have hs := kz_snoc key j
    have hb1 : (kz key j).length + 1 ≤ 140737488355328 := by omega
    have hb2 : (kz key j).length + 1 ≤ 9223372036854775807 := by omega
    clear hln
    generalize kz key j = z at *
    (try simp only [push_cast, Nat.zero_lt_succ, Nat.reduceAdd, Nat.reduceBEq, Nat.reducePow, Nat.reduceLeDiff, hdl, hb1, hb2])
    all_goals (refine rnd_to _ _ _ (j + 1) (by show key.length + (j + 1) ≤ 64; omega) (by (omega)) ?_; (try simp only [hs]); (apply Wk.renA (fun _ => false); (case he => (try simp only [push_cast, Nat.reduceBEq]); (repeat' (first | (refine cv_ros_self ?_; (((simp only [push_cast] <;> fail "n")))) | exact cv_eV rfl | (refine bel_eV ?_; (omega)) | refine And.intro ?_ ?_ | rfl))); (case hr => (try simp only [push_cast, Nat.reduceBEq]); (repeat' (first | (refine cellsCv_eq ?_ ?_; (simp <;> fail "n"); (((simp only [push_cast] <;> fail "n")))) | refine And.intro ?_ ?_ | omega))); (all_goals try exact 0); (case hinj => (((simp [rhoA_0, rhoA_1]; done))))))
  · have hdl : decide (((kz key j).length : Int) < 64) = false := by simp; omega
    obtain rfl : j = 64 - key.length := by omega
    rw [hkz] at hdl
    simp only [hkz]
    clear hln
    generalize hK : key64 key = K at *
    (try simp only [push_cast, Nat.reduceAdd, Nat.reduceBEq, hdl])
    refine w_loopS (fun k : Nat => ([(0, bsV key), (1, bsV b), (2, u8c zeros), (3, u8c bit), (9, .bool true), (10, .pt 2 32 0 0), (11, .int .i64 0), (12, bsV K), (13, accV 0 1 ((kxT K 54 k).map b1)), (14, accV 1 1 ((kxT K 92 k).map b1)), (15, .int .i64 k)], ⟨3, accR 0 1 ((kxT K 54 k).map b1) ++ (accR 1 1 ((kxT K 92 k).map b1) ++ [(2, ⟨32, [T.map u8c]⟩)])⟩)) (fun k => k ≤ 64) (fun k => 64 - k) 0 (by omega) ?_ ?_
    · simp only [kxT, List.take_zero, List.map_nil, accV, accR, List.nil_append]
      (apply Wk.renA (fun i => i == 0); (case he => (try simp only [push_cast, Nat.reduceBEq]); (repeat' (first | (refine cv_slG rfl rfl ⟨rfl, rfl⟩ ?_ ?_ ?_ ?_; (simp <;> fail "n"); (rfl); (rfl); (((simp only [push_cast] <;> fail "n")))) | (refine cv_ros_self ?_; (((simp only [push_cast] <;> fail "n")))) | refine And.intro ?_ ?_ | rfl))); (case hr => (try simp only [push_cast, Nat.reduceBEq]); (repeat' (((refine cellsCv_eq ?_ ?_; (simp <;> fail "n"); (((simp only [push_cast] <;> fail "n")))))))); (all_goals try exact 0); (case hinj => (((simp [rhoA_2]; done)))))
    intro k hkk
    rcases Nat.lt_or_ge k 64 with hk' | hk'
    · have hdk := dltL (k := k) (n := 64) (by omega)
      have hw := inc64 (k := k) (by omega)
      obtain ⟨c, hc⟩ := lt_get (xs := K) (k := k) (by omega)
      have hg := getD_map (enc := b1) hc
      have hs1 := kxT_step (v := 54) hc
      have hs2 := kxT_step (v := 92) hc
      have hx1 : Go.bits .xor .u8 (c.toNat : Int) 54 = ((c ^^^ 54).toNat : Int) := xor_byte c 54
      have hx2 : Go.bits .xor .u8 (c.toNat : Int) 92 = ((c ^^^ 92).toNat : Int) := xor_byte c 92
      have l1 := kxT_len (X := K) (v := 54) (k := k) (by omega)
      have l2 := kxT_len (X := K) (v := 92) (k := k) (by omega)
      have b1' : (kxT K 54 k).length + 1 ≤ 140737488355328 := by omega
      have b2' : (kxT K 54 k).length + 1 ≤ 9223372036854775807 := by omega
      have b3' : (kxT K 92 k).length + 1 ≤ 140737488355328 := by omega
      have b4' : (kxT K 92 k).length + 1 ≤ 9223372036854775807 := by omega
      have hkK : k < K.length := by omega
      clear l1 l2
      generalize kxT K 54 k = A at *
      generalize kxT K 92 k = B at *
      (try simp only [push_cast, Nat.zero_lt_succ, Nat.reduceAdd, Nat.reduceBEq, Nat.reducePow, Nat.reduceLeDiff, hdk, hw, hg, hx1, hx2, b1', b2', b3', b4'])
      repeat' (first | refine And.intro ?_ ?_ | omega)
      all_goals (refine rnd_to _ _ _ (k + 1) (by show k + 1 ≤ 64; omega) (by (omega)) ?_; (try simp only [hs1, hs2]); (apply Wk.renA (fun _ => false); (case he => (try simp only [push_cast, Nat.reduceBEq]); (repeat' (first | (refine cv_ros_self ?_; (((simp only [push_cast] <;> fail "n")))) | exact cv_acc rfl | (refine bel_acc ?_; (omega)) | refine And.intro ?_ ?_ | rfl))); (case hr => (try simp only [push_cast]); (repeat' (first | exact trivial | (refine rowsAll_acc (by ((simp [push_cast] <;> fail "n"))) (by ((simp only [push_cast] <;> fail "n"))) (by ((simp only [push_cast, Nat.reduceBEq] <;> fail "n"))) (by ((simp only [push_cast] <;> fail "n"))) ?_) | (refine cellsCv_eq ?_ ?_; (simp <;> fail "n"); (((simp only [push_cast] <;> fail "n")))) | refine And.intro ?_ ?_ | rfl | omega | (simp only [push_cast, Nat.reduceBEq])))); (all_goals try exact 0); (case hinj => (((apply inj_of; (case h => (try dsimp only); repeat' (first | exact keysIn_nil | apply keysIn_acc | apply keysIn_cons)); (case hi => unfold injK; (decide))))))))
    · obtain rfl : k = 64 := by omega
      have e1 : kxT K 54 64 = K.map (· ^^^ 54) := by unfold kxT; rw [List.take_of_length_le (by omega)]
      have e2 : kxT K 92 64 = K.map (· ^^^ 92) := by unfold kxT; rw [List.take_of_length_le (by omega)]
      simp only [e1, e2]
      have hX : (K.map (· ^^^ (54 : UInt8))).length = 64 := by rw [List.length_map]; exact hKl
      have hY : (K.map (· ^^^ (92 : UInt8))).length = 64 := by rw [List.length_map]; exact hKl
      generalize K.map (· ^^^ (54 : UInt8)) = X at *
      generalize K.map (· ^^^ (92 : UInt8)) = Y at *
      have c3 := sum_p (X ++ b) (by simp; omega)
      have hd3' : decide (((X ++ b).length : Int) > 8192) = false := by simp; omega
      have hi := shaB_length (X ++ b)
      simp only [sumS, hd3', cond_false] at c3
      generalize shaB (X ++ b) = inn at *
      have c4 := sum_p (Y ++ inn) (by simp; omega)
      have hd4' : decide (((Y ++ inn).length : Int) > 8192) = false := by simp; omega
      have hYe2 : T = _ := hYe
      simp only [sumS, hd4', cond_false, ← hYe2] at c4
      clear hYe2
      simp only [bsV, List.map_append] at c3 c4
      have q1 : X.length + b.length ≤ 140737488355328 := by omega
      have q2 : X.length + b.length ≤ 9223372036854775807 := by omega
      have q3 : Y.length + 32 ≤ 140737488355328 := by omega
      have q4 : Y.length + 32 ≤ 9223372036854775807 := by omega
      have hti : List.take 32 (inn.map u8c) = inn.map u8c := List.take_of_length_le (by simp; omega)
      have f1 : List.map (fun c => [c]) (inn.map u8c) = inn.map b1 := (flat1 _).symm
      have zl := zeros.toNat_lt
      have w1 : IntKind.i64.wrap (zeros.toNat : Int) = (zeros.toNat : Int) := i64_nat (by omega)
      have w2 : IntKind.i64.wrap ((key.length : Int) + (zeros.toNat : Int)) = (key.length : Int) + (zeros.toNat : Int) := i64_id (by omega) (by omega)
      obtain ⟨n, hn, hn1, hn2⟩ : ∃ n : Nat, (if (64 : Int) < (key.length : Int) + (zeros.toNat : Int) then (64 : Int) else (key.length : Int) + (zeros.toNat : Int)) = (n : Int) ∧ key.length ≤ n ∧ n ≤ 64 := by
        by_cases h : (64 : Int) < (key.length : Int) + (zeros.toNat : Int)
        · exact ⟨64, by rw [if_pos h]; rfl, by omega, by omega⟩
        · exact ⟨key.length + zeros.toNat, by rw [if_neg h]; simp, by omega, by omega⟩
      have c5 := tag_p (K.take n) b (by simp; omega) hl
      have hnl : (K.take n).length = n := by rw [List.length_take]; omega
      have hd5 : (decide (((K.take n).length : Int) < 1) || decide (((K.take n).length : Int) > 64)) = false := by rw [hnl]; simp; omega
      simp only [tagS, hd5, hd3, cond_false, hTn n hn1 hn2] at c5
      have hnK : n ≤ K.length := by omega
      have tk : List.take n (K.map b1) = (K.take n).map b1 := by rw [List.map_take]
      have z1 := eqa32 hT hT true
      have z2 := eqc32 hT hT
      rw [L32_lit] at z1 z2
      have c6 := cv T hk hl hT
      obtain ⟨q, hq0, hqi⟩ : ∃ q : Nat, q = bit.toNat / 8 ∧ IntKind.u8.wrap ((bit.toNat : Int).tdiv 8) = (q : Int) := ⟨_, rfl, by
        have := bit.toNat_lt
        rw [Int.tdiv_eq_ediv_of_nonneg (by omega), IntKind.wrap_u8]; omega⟩
      obtain ⟨m, hm0, hmi⟩ : ∃ m : Nat, m = bit.toNat % 8 ∧ (bit.toNat : Int).tmod 8 = (m : Int) := ⟨_, rfl, by
        rw [Int.tmod_eq_emod_of_nonneg (by omega)]; omega⟩
      have hbl := bit.toNat_lt
      have hq32 : q < 32 := by omega
      obtain ⟨y, hy⟩ := lt_get (xs := T) (k := q) (by omega)
      obtain ⟨hp0, hpw⟩ := pow_ne m (by omega)
      have hne := xor_ne hy hp0
      have hxy := xor_byte y (UInt8.ofNat (2 ^ m))
      have gl := ld_at (f := u8c) hy
      have gs := st_at' (f := u8c) (ws := T) (j := q) (v := u8c (y ^^^ UInt8.ofNat (2 ^ m))) (by omega) _ rfl
      have hT2 : (T.set q (y ^^^ UInt8.ofNat (2 ^ m))).length = 32 := by simp [hT]
      have c7 := cv _ hk hl hT2
      rw [decide_eq_false hne] at c7
      have ht2 : List.take 32 ((T.set q (y ^^^ UInt8.ofNat (2 ^ m))).map u8c) = (T.set q (y ^^^ UInt8.ofNat (2 ^ m))).map u8c := List.take_of_length_le (by simp; omega)
      have hq31 : q ≤ 31 := by omega
      clear cv hTn hYe hq0 hm0 hne hp0 hKl hX hY hK hkz hd5 hnl hn1 hn2
      generalize K.take n = Kn at *
      generalize UInt8.ofNat (2 ^ m) = p at *
      generalize T.set q (y ^^^ p) = T' at *
      (try simp only [push_cast, Nat.reduceSub, Int.reduceAdd, Nat.reduceAdd, Nat.reduceBEq, Int.reduceLT, q1, q2])
      repeat' (first | ((first | (apply sc_p; (case h => first | exact c6 | exact c7); (case hc => ((simp only [push_cast] <;> fail "n")))) | (apply sc_pz; (case h => exact c3); (case hx => ((try simp only [all2_cons, all2_nil, frzArg, push_cast]); repeat' (((refine cv_accF rfl ?_ ?_ ?_; (((simp only [push_cast] <;> fail "n"))); (((simp only [push_cast] <;> fail "n"))); (((simp only [push_cast] <;> fail "n")))))))); (case hv => ((simp only [push_cast] <;> fail "n")))) | (apply sc_pz; (case h => exact c4); (case hx => ((try simp only [all2_cons, all2_nil, frzArg, push_cast]); repeat' (((refine cv_accF rfl ?_ ?_ ?_; (((simp only [push_cast] <;> fail "n"))); (((simp only [push_cast] <;> fail "n"))); (((simp only [push_cast] <;> fail "n")))))))); (case hv => ((simp only [push_cast] <;> fail "n")))) | (apply sc_pz; (case h => exact c5); (case hx => ((try simp only [all2_cons, all2_nil, frzArg, push_cast]); repeat' (((((simp [push_cast, tk] <;> fail "n"))))))); (case hv => ((simp only [push_cast] <;> fail "n")))) | (refine ret_frz rfl ?_ ?_ ?_ ?_; rotate_left 1; (((simp only [push_cast] <;> fail "n"))); (((simp only [push_cast] <;> fail "n"))); (((simp only [push_cast] <;> fail "n"))))) <;> (try simp only [push_cast, Nat.reduceSub, Int.reduceAdd, Nat.zero_lt_succ, Nat.reduceAdd, Nat.reduceBEq, Nat.reduceLeDiff, reduceCtorEq, Int.reduceLE, Int.reduceEq, Int.reduceToNat, *])) | refine And.intro ?_ ?_ | omega)
end Go.Proofs.YtggmkfagcjdifaaDoor
