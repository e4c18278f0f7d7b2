/- Facts of the program over abstract values. No condition. -/
import Derived.Test.YtggmkfagcjdifaaDoorDk
import Derived.Test.YtggmkfagcjdifaaDoorDl
set_option maxRecDepth 8000
namespace Go.Proofs.YtggmkfagcjdifaaDoor
set_option linter.unusedSimpArgs false
set_option linter.unusedVariables false
set_option linter.unnecessarySimpa false
set_option linter.unusedSectionVars false
open Go.Proofs.Tryd
open Go.Proofs.YtggmkfagcjdifaaDoor.Ai
set_option maxHeartbeats 4000000
set_option linter.unusedVariables false
open Go.Proofs.YtggmkfagcjdifaaDoor.Sh hiding mixed
attribute [local push_cast] stc_cl stc_one

/-- the differences of the first k bytes. -/
def difTo (x t : List UInt8) : Nat → UInt8
  | 0 => 0
  | k + 1 => difTo x t k ||| (x.getD k 0 ^^^ t.getD k 0)
theorem or_zero (a b : UInt8) : a ||| b = 0 ↔ a = 0 ∧ b = 0 := by
  constructor
  · intro h
    have h1 : a.toNat ||| b.toNat = 0 := by have := congrArg UInt8.toNat h; simpa using this
    obtain ⟨h2, h3⟩ := Nat.or_eq_zero_iff.1 h1
    exact ⟨UInt8.toNat_inj.1 h2, UInt8.toNat_inj.1 h3⟩
  · rintro ⟨rfl, rfl⟩; rfl
theorem dif_zero (x t : List UInt8) : ∀ k, difTo x t k = 0 ↔ ∀ j, j < k → x.getD j 0 = t.getD j 0
  | 0 => ⟨fun _ j h => absurd h (by omega), fun _ => rfl⟩
  | k + 1 => by
    show difTo x t k ||| (x.getD k 0 ^^^ t.getD k 0) = 0 ↔ _
    rw [or_zero, dif_zero x t k, UInt8.xor_eq_zero_iff]
    constructor
    · rintro ⟨h1, h2⟩ j hj
      by_cases h : j < k
      · exact h1 j h
      · obtain rfl : j = k := by omega
        exact h2
    · intro h
      exact ⟨fun j hj => h j (by omega), h k (by omega)⟩
theorem dif_all {x t : List UInt8} (hx : x.length = 32) (ht : t.length = 32) : difTo x t 32 = 0 ↔ x = t := by
  rw [dif_zero]
  constructor
  · intro h
    apply List.ext_getElem (by omega)
    intro j h1 h2
    have := h j (by omega)
    simpa [List.getD, h1, h2] using this
  · rintro rfl j _; rfl
theorem or_byte8 (x p : UInt8) : bits .or .u8 (x.toNat : Int) (p.toNat : Int) = ((x ||| p).toNat : Int) := by
  rw [u8_or_nat x.toNat p.toNat x.toNat_lt p.toNat_lt, UInt8.toNat_or]
theorem verify_p (key b t : List UInt8) (hk : key.length < 2 ^ 48) (hl : b.length < 2 ^ 48) (ht : t.length = 32) : PCall prog 37 [bsV key, bsV b, .agg (t.map u8c)]
    (bif decide ((key.length : Int) < 1) || decide ((key.length : Int) > 64) then .tup [.bool false, .int .i64 2] else bif decide ((b.length : Int) > 8128) then .tup [.bool false, .int .i64 4] else .tup [.bool (decide (tagB key b = t)), .int .i64 0]) := by
  have c := tag_p key b hk hl
  simp only [tagS] at c
  have hdr : List.drop 32 (rep 32 (.int .u8 0)) = [] := List.drop_of_length_le (by rw [rep_len]; omega)
  cases hd : (decide ((key.length : Int) < 1) || decide ((key.length : Int) > 64)) with
  | true =>
    rw [hd] at c
    simp only [cond_true] at c ⊢
    clear hd
    obtain ⟨c, hb, hl⟩ := l37
    refine pcall_of mixed e37 hb rfl hl r37 (by rw [n37]; simp) ?_
    clear hb hl c
    (try simp only [push_cast, Nat.reduceAdd, Nat.reduceBEq])
    repeat' ((((first | (apply sc_p; (case h => (exact c)); (case hc => ((simp only [push_cast] <;> fail "n")))) | (refine ret_frz rfl ?_ ?_ ?_ ?_; rotate_left 1; (((simp only [push_cast, Nat.reduceBEq] <;> fail "n"))); (((simp only [push_cast, Nat.reduceBEq] <;> fail "n"))); (((simp only [push_cast] <;> fail "n"))))) <;> (try simp only [push_cast, Nat.zero_lt_succ, Nat.reduceAdd, Nat.reduceBEq, reduceCtorEq, Int.reduceEq, *]))))
  | false =>
    rw [hd] at c
    simp only [cond_false] at c ⊢
    clear hd
    cases hd2 : decide ((b.length : Int) > 8128) with
    | true =>
      rw [hd2] at c
      simp only [cond_true] at c ⊢
      clear hd2
      obtain ⟨c, hb, hl⟩ := l37
      refine pcall_of mixed e37 hb rfl hl r37 (by rw [n37]; simp) ?_
      clear hb hl c
      (try simp only [push_cast, Nat.reduceAdd, Nat.reduceBEq])
      repeat' ((((first | (apply sc_p; (case h => (exact c)); (case hc => ((simp only [push_cast] <;> fail "n")))) | (refine ret_frz rfl ?_ ?_ ?_ ?_; rotate_left 1; (((simp only [push_cast, Nat.reduceBEq] <;> fail "n"))); (((simp only [push_cast, Nat.reduceBEq] <;> fail "n"))); (((simp only [push_cast] <;> fail "n"))))) <;> (try simp only [push_cast, Nat.zero_lt_succ, Nat.reduceAdd, Nat.reduceBEq, reduceCtorEq, Int.reduceEq, *]))))
    | false =>
      rw [hd2] at c
      simp only [cond_false] at c ⊢
      clear hd2
      have hX := tagB_length key b
      generalize tagB key b = X at *
      have hdz := dif_all hX ht
      have hE : (((difTo X t 32).toNat : Int) == 0) = decide (X = t) := by
        rw [Bool.eq_iff_iff, beq_iff_eq, decide_eq_true_iff, ← hdz]
        exact ⟨fun h => UInt8.toNat_inj.1 (by show _ = 0; omega), fun h => by rw [h]; rfl⟩
      have ht1 : List.take 32 (X.map u8c) = X.map u8c := List.take_of_length_le (by simp; omega)
      clear hdz
      obtain ⟨c, hb, hl⟩ := l37
      refine pcall_of mixed e37 hb rfl hl r37 (by rw [n37]; simp) ?_
      clear hb hl c
      (try simp only [push_cast, Nat.reduceAdd, Nat.reduceBEq])
      repeat' ((((((apply sc_p; (case h => (exact c)); (case hc => ((simp only [push_cast] <;> fail "n")))))) <;> (try simp only [push_cast, Nat.zero_lt_succ, Nat.reduceAdd, Nat.reduceBEq, *]))))
      refine w_loopS (fun k : Nat => ([(5, .rop (t.map u8c)), (10, u8c (difTo X t k)), (22, .agg (X.map u8c)), (23, .int .i64 k)], ⟨0, []⟩)) (fun k => k ≤ 32) (fun k => 32 - k) 0 (Nat.zero_le _) ?_ ?_
      · have h0 : ((difTo X t 0).toNat : Int) = 0 := rfl
        simp only [u8c, h0]
        (apply Wk.renA (fun i => i == 0); (case he => (try simp only [push_cast, Nat.reduceBEq]); (repeat' (first | (refine cv_ptE rfl rfl rfl (by simp <;> fail "n") (by ((simp; omega))) ?_; simp only [push_cast]) | (refine all2_cl ?_; (((simp only [push_cast] <;> fail "n")))) | refine And.intro ?_ ?_))); (case hr => (try simp only [push_cast]); (skip)); (all_goals try exact 0); (case hinj => (((simp; done)))))
      intro k hk
      rcases Nat.lt_or_ge k 32 with hk' | hk'
      · have hd := dltL (k := k) (n := 32) (by omega)
        have hw := inc64 (k := k) (by omega)
        obtain ⟨x, hx⟩ := lt_get (xs := X) (k := k) (by omega)
        obtain ⟨y, hy⟩ := lt_get (xs := t) (k := k) (by omega)
        have h1 := hd_at (f := u8c) hx
        have h2 := ld_at (f := u8c) hy
        have hs : difTo X t (k + 1) = difTo X t k ||| (x ^^^ y) := by simp [difTo, hx, hy]
        have f1 := xor_byte x y
        have f2 := or_byte8 (difTo X t k) (x ^^^ y)
        (try simp only [push_cast, Int.reduceAdd, Nat.reduceAdd, Nat.reduceBEq, Nat.reduceLeDiff, hd, hw, h1, h2, f1, f2, ht, hX])
        repeat' (first | refine And.intro ?_ ?_ | omega)
        all_goals (first | (simp_all []; omega) | skip)
        all_goals (refine rnd_to _ _ _ (k + 1) (by show k + 1 ≤ 32; omega) (by (omega)) ?_; (try simp only [hs]); (apply Wk.renA (fun _ => false); (case he => (try simp only [push_cast, Nat.reduceBEq]); (repeat' (first | (refine all2_cl ?_; (((simp only [push_cast] <;> fail "n")))) | refine And.intro ?_ ?_))); (case hr => (try simp only [push_cast]); (skip)); (all_goals try exact 0); (case hinj => (((simp; done))))))
      · obtain rfl : k = 32 := by omega
        (try simp only [push_cast, Nat.reduceSub, Int.reduceAdd, Nat.reduceAdd, Nat.reduceBEq, Int.reduceLT, hE])
        repeat' ((((((refine ret_frz rfl ?_ ?_ ?_ ?_; rotate_left 1; (((simp only [push_cast, Nat.reduceBEq] <;> fail "n"))); (((simp only [push_cast, Nat.reduceBEq] <;> fail "n"))); (((simp only [push_cast] <;> fail "n")))))) <;> (try simp only [push_cast, Nat.reduceBEq, *]))))
end Go.Proofs.YtggmkfagcjdifaaDoor
