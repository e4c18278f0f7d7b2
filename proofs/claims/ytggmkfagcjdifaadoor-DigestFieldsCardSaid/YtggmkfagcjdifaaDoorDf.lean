/- Facts of the program over abstract values. No condition. -/
import Derived.Test.YtggmkfagcjdifaaDoorDe
set_option maxRecDepth 8000
namespace Go.Proofs.YtggmkfagcjdifaaDoor
set_option linter.unusedSimpArgs false
set_option linter.unusedVariables false
set_option linter.unnecessarySimpa false
set_option linter.unusedSectionVars false
open Go.Proofs.Tryd
open Go.Proofs.YtggmkfagcjdifaaDoor.Ai
set_option maxHeartbeats 4000000
set_option linter.unusedVariables false
open Go.Proofs.YtggmkfagcjdifaaDoor.Sh hiding mixed

abbrev psV (ps : List (List UInt8)) : AV := .ros 1 (ps.map fun p => [bsV p])
theorem catK {ps : List (List UInt8)} {k : Nat} {p : List UInt8} (h : ps[k]? = some p) : (ps.take (k + 1)).flatten.map b1 = (ps.take k).flatten.map b1 ++ p.map b1 := by
  rw [List.take_add_one, h]; simp
theorem flat_len {ps : List (List UInt8)} {k : Nat} : (ps.take k).flatten.length ≤ ps.flatten.length := by
  conv => rhs; rw [← List.take_append_drop k ps, List.flatten_append, List.length_append]
  omega
theorem flat_len' {ps : List (List UInt8)} {k : Nat} {p : List UInt8} (h : ps[k]? = some p) : (ps.take k).flatten.length + p.length ≤ ps.flatten.length := by
  have := flat_len (ps := ps) (k := k + 1)
  rw [List.take_add_one, h] at this; simpa using this
theorem join_r (ps : List (List UInt8)) (hl : ps.length < 2 ^ 40) (hl2 : ps.flatten.length < 2 ^ 40) : RCall prog 42 [psV ps] 0 1 (accR 0 1 (ps.flatten.map b1)) (accV 0 1 (ps.flatten.map b1)) := by
  refine SCall.r ?_ (look_lt (all_acc fun r => rfl))
  obtain ⟨c, hb, hl⟩ := l42
  refine scall_of mixed e42 hb rfl hl r42 (by rw [n42]; simp) ?_
  clear hb hl c
  (try simp only [push_cast, Nat.reduceAdd, Nat.reduceBEq])
  refine w_loopS (fun k : Nat => ([(3, accV 0 1 ((ps.take k).flatten.map b1)), (6, psV ps), (7, .int .i64 ps.length), (8, .int .i64 k)], ⟨1, accR 0 1 ((ps.take k).flatten.map b1)⟩)) (fun k => k ≤ ps.length) (fun k => ps.length - k) 0 (Nat.zero_le _) ?_ ?_
  · simp only [List.take_zero, List.flatten_nil, List.map_nil, accV, accR]
    (apply Wk.renA (fun _ => false); (case he => (try simp only [push_cast, Nat.reduceBEq]); (repeat' (((refine cv_ros_self ?_; (((simp only [push_cast] <;> fail "n")))))))); (case hr => (try simp only [push_cast]); (skip)); (all_goals try exact 0); (case hinj => (((simp; done)))))
  intro k hk
  rcases Nat.lt_or_ge k ps.length with hk' | hk'
  · obtain ⟨p, hp⟩ := lt_get hk'
    have hd := dlt hk'
    have hw := inc64 (k := k) (by omega)
    have hg := getD_map (enc := fun p => [bsV p]) hp
    have hs := catK hp
    have hn := flat_len' hp
    generalize (ps.take k).flatten = ac at *
    have hb : (ac.length + p.length) ≤ 140737488355328 := by omega
    have hb2 : (ac.length + p.length) ≤ 9223372036854775807 := by omega
    (try simp only [push_cast, Nat.reduceAdd, Nat.reduceBEq, hd, hw, hg, hb, hb2])
    repeat' (first | refine And.intro ?_ ?_ | omega)
    all_goals (refine rnd_to _ _ _ (k + 1) hk' (by (omega)) ?_; (try simp only [hs]); (apply Wk.renA (fun _ => false); (case he => (try simp only [push_cast, Nat.reduceBEq]); (repeat' (first | (refine cv_ros_self ?_; (((simp only [push_cast] <;> fail "n")))) | exact cv_acc rfl | (refine bel_acc ?_; (omega)) | refine And.intro ?_ ?_))); (case hr => (try simp only [push_cast]); (repeat' (((refine rowsAll_acc0 ?_ ?_ ?_ ?_; (((simp only [push_cast] <;> fail "n"))); (((simp only [push_cast] <;> fail "n"))); (((simp only [push_cast] <;> fail "n"))); (((simp only [push_cast] <;> fail "n")))))))); (all_goals try exact 0); (case hinj => (((apply inj_of; (case h => (try dsimp only); repeat' (exact keysIn_acc0)); (case hi => unfold injK; (decide))))))))
  · obtain rfl : k = ps.length := by omega
    have hd := dge (Nat.le_refl ps.length)
    simp only [List.take_length]
    (try simp only [push_cast, Nat.reduceAdd, Nat.reduceBEq, hd])
    all_goals (refine outQ_ret rfl ?_ (by simp [push_cast] <;> fail "n") (by simp [push_cast] <;> fail "n"); (apply Wk.renA (fun _ => false); (case he => (try simp only [push_cast, Nat.reduceBEq]); (repeat' (first | exact cv_acc rfl | (refine bel_acc ?_; (omega)) | refine And.intro ?_ ?_))); (case hr => (try simp only [push_cast]); (repeat' (((refine rowsAll_acc0 ?_ ?_ ?_ ?_; (((simp only [push_cast] <;> fail "n"))); (((simp only [push_cast] <;> fail "n"))); (((simp only [push_cast] <;> fail "n"))); (((simp only [push_cast] <;> fail "n")))))))); (all_goals try exact 0); (case hinj => (((apply inj_of; (case h => (try dsimp only); repeat' (exact keysIn_acc0)); (case hi => unfold injK; (decide))))))))
theorem b1_len (l : List UInt8) : ∀ x ∈ l.map b1, x.length = 1 := fun x hx => by obtain ⟨b, _, rfl⟩ := List.mem_map.1 hx; rfl
theorem b1_cl (l : List UInt8) : ∀ x ∈ l.map b1, ∀ v ∈ x, Cl v := by simp only [push_cast]
theorem join_p (ps : List (List UInt8)) (hl : ps.length < 2 ^ 40) (hl2 : ps.flatten.length < 2 ^ 40) : PCall prog 42 [psV ps] (bsV ps.flatten) :=
  (join_r ps hl hl2).still (cv_accF rfl (by rw [accOK_hd0]; trivial) (b1_len _) (b1_cl _)) (.ros _ _ (b1_cl _))
theorem shr_byte (n k : Nat) (hn : n < 18446744073709551616) (hk : k < 8) : IntKind.u8.wrap ((n : Int).fdiv (2 ^ min (8 * k) IntKind.u64.bits)) = ((UInt8.ofNat (n / 256 ^ k)).toNat : Int) := by
  rw [IntKind.wrap_u8, show min (8 * k) IntKind.u64.bits = 8 * k from Nat.min_eq_left (by show 8 * k ≤ 64; omega), Int.fdiv_eq_ediv_of_nonneg _ (Int.le_of_lt (Int.pow_pos (by omega))), Int.pow_mul, ofNat_toNat]
  simp
theorem appUint_s (bs : List UInt8) (n k : Nat) (hn : n < 18446744073709551616) (hk : k ≤ 8) (hl : bs.length < 2 ^ 40) :
    SCall prog 41 [accV 0 1 (bs.map b1), .int .u64 (n : Int), .int .i64 (k : Int)] ⟨1, accR 0 1 (bs.map b1)⟩ (.ret (accV 1 1 ((bs ++ be n k).map b1))) ⟨2, accR 1 1 ((bs ++ be n k).map b1)⟩ := by
  have f0 : IntKind.i64.wrap ((k : Int) - 1) = (k : Int) - 1 := i64_id (by omega) (by omega)
  obtain ⟨c, hb, hl⟩ := l41
  refine scall_of mixed e41 hb rfl hl r41 (by rw [n41]; simp) ?_
  clear hb hl c
  (try simp only [push_cast, Nat.reduceAdd, Nat.reduceBEq, f0])
  refine w_loopS (fun j : Nat => ([(0, accV 1 1 ((bs ++ be (n / 256 ^ (k - j)) j).map b1)), (1, .int .u64 (n : Int)), (7, .int .i64 ((k : Int) - 1 - j))], ⟨2, accR 1 1 ((bs ++ be (n / 256 ^ (k - j)) j).map b1)⟩)) (fun j => j ≤ k) (fun j => k - j) 0 (Nat.zero_le _) ?_ ?_
  · simp only [be, List.append_nil]
    (apply Wk.renB (fun _ => false); (case hn => rfl); (case he => (try simp only [push_cast, Nat.reduceBEq]); (repeat' (first | exact cv_acc rfl | (refine bel_acc ?_; (omega)) | refine And.intro ?_ ?_ | omega))); (case hr => (try simp only [push_cast]); (repeat' (((refine rowsAll_acc0 ?_ ?_ ?_ ?_; (((simp only [push_cast] <;> fail "n"))); (((simp only [push_cast] <;> fail "n"))); (((simp only [push_cast, Nat.reduceSub, Nat.reduceLT] <;> fail "n"))); (((simp only [push_cast] <;> fail "n")))))))); (all_goals try exact 0); (case hinj => (((apply inj_of; (case h => (try dsimp only); repeat' (exact keysIn_acc0)); (case hi => unfold injK; (decide)))))))
  intro j hj
  rcases Nat.lt_or_ge j k with hj' | hj'
  · obtain ⟨i, hi⟩ : ∃ i : Nat, (i : Int) = (k : Int) - 1 - j := ⟨k - 1 - j, by omega⟩
    have hd : decide ((0 : Int) ≤ (i : Int)) = true := by simp
    have f1 : IntKind.i64.wrap (8 * (i : Int)) = 8 * (i : Int) := i64_id (by omega) (by omega)
    have f2 : IntKind.i64.wrap ((i : Int) - 1) = (i : Int) - 1 := i64_id (by omega) (by omega)
    have f3 : (8 * (i : Int)).toNat = 8 * i := by omega
    have f4 := shr_byte n i hn (by omega)
    have hs : (bs ++ be (n / 256 ^ (k - (j + 1))) (j + 1)).map b1 = (bs ++ be (n / 256 ^ (k - j)) j).map b1 ++ [b1 (UInt8.ofNat (n / 256 ^ i))] := by
      rw [← be_more n k j hj', ← List.append_assoc, List.map_append, show k - (j + 1) = i from by omega]; rfl
    have hln : (bs ++ be (n / 256 ^ (k - j)) j).length < 2 ^ 41 := by rw [List.length_append, be_length]; omega
    have hi2 : (i : Int) - 1 = (k : Int) - 1 - ((j : Int) + 1) := by omega
    simp only [← hi]
    generalize bs ++ be (n / 256 ^ (k - j)) j = ac at *
    have hb : ac.length + 1 ≤ 140737488355328 := by omega
    have hb2 : ac.length + 1 ≤ 9223372036854775807 := by omega
    (try simp only [push_cast, Nat.zero_lt_succ, Nat.reduceAdd, Nat.reduceBEq, Nat.reducePow, Nat.reduceLeDiff, f1, f2, f3, f4, hb, hb2])
    repeat' (first | refine And.intro ?_ ?_ | omega)
    all_goals (refine rnd_to _ _ _ (j + 1) hj' (by (omega)) ?_; (try simp only [hs, hi2]); (apply Wk.renB (fun _ => false); (case hn => rfl); (case he => (try simp only [push_cast, Nat.reduceBEq]); (repeat' (first | exact cv_acc rfl | (refine bel_acc ?_; (omega)) | refine And.intro ?_ ?_))); (case hr => (try simp only [push_cast]); (repeat' (((refine rowsAll_acc0 ?_ ?_ ?_ ?_; (((simp only [push_cast] <;> fail "n"))); (((simp only [push_cast] <;> fail "n"))); (((simp only [push_cast, Nat.reduceSub, Nat.reduceLT] <;> fail "n"))); (((simp only [push_cast] <;> fail "n")))))))); (all_goals try exact 0); (case hinj => (((apply inj_of; (case h => (try dsimp only); repeat' (exact keysIn_acc0)); (case hi => unfold injK; (decide))))))))
  · obtain rfl : j = k := by omega
    have hd : decide ((0 : Int) ≤ (j : Int) - 1 - j) = false := by simp; omega
    simp only [Nat.sub_self, Nat.pow_zero, Nat.div_one]
    (try simp only [push_cast, Nat.reduceAdd, Nat.reduceBEq, hd])
    all_goals (refine outQ_ret rfl ?_ (by simp [push_cast] <;> fail "n") (by simp [push_cast] <;> fail "n"); (apply Wk.renB (fun _ => false); (case hn => rfl); (case he => (try simp only [push_cast, Nat.reduceBEq]); (repeat' (first | exact cv_acc rfl | (refine bel_acc ?_; (omega)) | refine And.intro ?_ ?_))); (case hr => (try simp only [push_cast]); (repeat' (((refine rowsAll_acc0 ?_ ?_ ?_ ?_; (((simp only [push_cast] <;> fail "n"))); (((simp only [push_cast] <;> fail "n"))); (((simp only [push_cast, Nat.reduceSub, Nat.reduceLT] <;> fail "n"))); (((simp only [push_cast] <;> fail "n")))))))); (all_goals try exact 0); (case hinj => (((apply inj_of; (case h => (try dsimp only); repeat' (exact keysIn_acc0)); (case hi => unfold injK; (decide))))))))
end Go.Proofs.YtggmkfagcjdifaaDoor
