/- Facts of the program over abstract values. No condition. -/
import Derived.Test.YtggmkfagcjdifaaDoorEi
set_option maxRecDepth 8000
namespace Go.Proofs.YtggmkfagcjdifaaDoor
set_option linter.unusedSimpArgs false
set_option linter.unusedVariables false
set_option linter.unnecessarySimpa false
set_option linter.unusedSectionVars false
open Go.Proofs.Tryd
open Go.Proofs.YtggmkfagcjdifaaDoor.Ai
set_option maxHeartbeats 4000000
set_option linter.unusedVariables false
open Go.Proofs.YtggmkfagcjdifaaDoor.Sh hiding mixed
attribute [local push_cast] stc_cl stc_one

theorem eqvV_map {α : Type} {f : α → AV} {kk : SK} (hf : ∀ x y, skE (f x) (f y) = true ↔ x = y) : ∀ (n k : Nat) (X Y : List α), X.length = k + n → Y.length = k + n →
    (eqvV ((List.range' k n).map fun i => (i, kk)) (X.map f) (Y.map f) = true ↔ X.drop k = Y.drop k)
  | 0, k, X, Y, hX, hY => by simp [eqvV, List.drop_of_length_le, hX, hY]
  | n + 1, k, X, Y, hX, hY => by
    have ih := eqvV_map (kk := kk) hf n (k + 1) X Y (by omega) (by omega)
    obtain ⟨x, hx⟩ := lt_get (xs := X) (k := k) (by omega)
    obtain ⟨y, hy⟩ := lt_get (xs := Y) (k := k) (by omega)
    rw [List.range'_succ, List.map_cons]
    simp only [eqvV, Bool.and_eq_true, ih, drop_at hx, drop_at hy, List.cons.injEq]
    have h1 : (X.map f).getD k .any = f x := by simp [List.getD_eq_getElem?_getD, hx]
    have h2 : (Y.map f).getD k .any = f y := by simp [List.getD_eq_getElem?_getD, hy]
    rw [h1, h2, hf]
theorem eqvC_map {α : Type} {f : α → AV} {kk : SK} (hf : ∀ x, skC kk (f x)) : ∀ (n k : Nat) (X Y : List α), X.length = k + n → Y.length = k + n →
    eqvC ((List.range' k n).map fun i => (i, kk)) (X.map f) (Y.map f)
  | 0, k, X, Y, hX, hY => trivial
  | n + 1, k, X, Y, hX, hY => by
    have ih := eqvC_map (kk := kk) hf n (k + 1) X Y (by omega) (by omega)
    obtain ⟨x, hx⟩ := lt_get (xs := X) (k := k) (by omega)
    obtain ⟨y, hy⟩ := lt_get (xs := Y) (k := k) (by omega)
    have h1 : (X.map f).getD k .any = f x := by simp [List.getD_eq_getElem?_getD, hx]
    have h2 : (Y.map f).getD k .any = f y := by simp [List.getD_eq_getElem?_getD, hy]
    rw [List.range'_succ, List.map_cons]
    exact ⟨⟨by simp; omega, by simp; omega, by rw [h1]; exact hf x, by rw [h2]; exact hf y⟩, ih⟩
theorem u8_inj (x y : UInt8) : skE (u8c x) (u8c y) = true ↔ x = y := by
  simp only [skE, beq_iff_eq]
  exact ⟨fun h => UInt8.toNat_inj.1 (by omega), fun h => by rw [h]⟩
abbrev L32 : List (Nat × SK) := (List.range' 0 32).map fun i => (i, SK.i .u8)
theorem L32_lit : L32 = [(0, SK.i .u8), (1, SK.i .u8), (2, SK.i .u8), (3, SK.i .u8), (4, SK.i .u8), (5, SK.i .u8), (6, SK.i .u8), (7, SK.i .u8), (8, SK.i .u8), (9, SK.i .u8), (10, SK.i .u8), (11, SK.i .u8), (12, SK.i .u8), (13, SK.i .u8), (14, SK.i .u8), (15, SK.i .u8), (16, SK.i .u8), (17, SK.i .u8), (18, SK.i .u8), (19, SK.i .u8), (20, SK.i .u8), (21, SK.i .u8), (22, SK.i .u8), (23, SK.i .u8), (24, SK.i .u8), (25, SK.i .u8), (26, SK.i .u8), (27, SK.i .u8), (28, SK.i .u8), (29, SK.i .u8), (30, SK.i .u8), (31, SK.i .u8)] := rfl
theorem eqa32 {X Y : List UInt8} (hX : X.length = 32) (hY : Y.length = 32) (g : Bool) : eqaV g L32 (.agg (X.map u8c)) (.agg (Y.map u8c)) = .bool (bif g then !decide (X = Y) else decide (X = Y)) := by
  have h := eqvV_map (f := u8c) (kk := .i .u8) u8_inj 32 0 X Y (by omega) (by omega)
  simp only [List.drop_zero] at h
  have : eqvV L32 (X.map u8c) (Y.map u8c) = decide (X = Y) := by rw [Bool.eq_iff_iff, h]; simp
  simp only [eqaV, this]
theorem eqc32 {X Y : List UInt8} (hX : X.length = 32) (hY : Y.length = 32) : eqaC L32 (.agg (X.map u8c)) (.agg (Y.map u8c)) = True :=
  eq_true (eqvC_map (f := u8c) (kk := .i .u8) (fun _ => rfl) 32 0 X Y (by omega) (by omega))
def tagS' (key b : List UInt8) : AV := bif decide ((key.length : Int) < 1) || decide ((key.length : Int) > 64) then .tup [.agg z32, .int .i64 2] else bif decide ((b.length : Int) > 8128) then .tup [.agg z32, .int .i64 4] else .tup [.agg ((tagB key b).map u8c), .int .i64 0]
theorem tagged_p (key b : List UInt8) : PCall prog 36 [bsV key, bsV b] (tagS' key b) := by
  have hdr : List.drop 32 (rep 32 (.int .u8 0)) = [] := List.drop_of_length_le (by rw [rep_len]; omega)
  have htz : List.take 32 (rep 32 (AV.int .u8 0)) = rep 32 (AV.int .u8 0) := List.take_of_length_le (by rw [rep_len]; omega)
  simp only [tagS']
  by_cases h1 : (key.length : Int) < 1
  · have hd : decide ((key.length : Int) < 1) = true := by simpa using h1
    simp only [hd, Bool.true_or, cond_true]
    obtain ⟨c, hb, hl⟩ := l36
    refine pcall_of mixed e36 hb rfl hl r36 (by rw [n36]; simp) ?_
    clear hb hl c
    (try simp only [push_cast, Nat.zero_lt_succ, Nat.reduceAdd, Nat.reduceBEq, reduceCtorEq, hd, hdr])
    repeat' (first | (((refine ret_frz rfl ?_ (by ((simp only [push_cast, Nat.reduceBEq]; done))) (by ((simp only [push_cast, Nat.reduceBEq, htz]; done))) (by ((simp [push_cast]; done))))) <;> (try simp only [push_cast, Nat.reduceBEq, reduceCtorEq, *])) | (((refine cv_ptE rfl rfl rfl (by simp; done) (by ((simp only [push_cast]; done))) ?_)) <;> (try simp only [push_cast, htz])) | exact all2_cl (by ((simp [push_cast]; done))))
  by_cases h2 : (key.length : Int) > 64
  · have hd : decide ((key.length : Int) < 1) = false := by simpa using h1
    have hd2 : decide ((key.length : Int) > 64) = true := by simpa using h2
    simp only [hd, hd2, Bool.false_or, cond_true]
    obtain ⟨c, hb, hl⟩ := l36
    refine pcall_of mixed e36 hb rfl hl r36 (by rw [n36]; simp) ?_
    clear hb hl c
    (try simp only [push_cast, Nat.zero_lt_succ, Nat.reduceAdd, Nat.reduceBEq, reduceCtorEq, hd, hd2, hdr])
    repeat' (first | (((refine ret_frz rfl ?_ (by ((simp only [push_cast, Nat.reduceBEq]; done))) (by ((simp only [push_cast, Nat.reduceBEq, htz]; done))) (by ((simp [push_cast]; done))))) <;> (try simp only [push_cast, Nat.reduceBEq, reduceCtorEq, *])) | (((refine cv_ptE rfl rfl rfl (by simp; done) (by ((simp only [push_cast]; done))) ?_)) <;> (try simp only [push_cast, htz])) | exact all2_cl (by ((simp [push_cast]; done))))
  have hd : decide ((key.length : Int) < 1) = false := by simpa using h1
  have hd2 : decide ((key.length : Int) > 64) = false := by simpa using h2
  simp only [hd, hd2, Bool.or_self, cond_false]
  by_cases h3 : (b.length : Int) > 8128
  · have hd3 : decide ((b.length : Int) > 8128) = true := by simpa using h3
    simp only [hd3, cond_true]
    obtain ⟨c, hb, hl⟩ := l36
    refine pcall_of mixed e36 hb rfl hl r36 (by rw [n36]; simp) ?_
    clear hb hl c
    (try simp only [push_cast, Nat.zero_lt_succ, Nat.reduceAdd, Nat.reduceBEq, reduceCtorEq, hd, hd2, hd3, hdr])
    repeat' (first | (((refine ret_frz rfl ?_ (by ((simp only [push_cast, Nat.reduceBEq]; done))) (by ((simp only [push_cast, Nat.reduceBEq, htz]; done))) (by ((simp [push_cast]; done))))) <;> (try simp only [push_cast, Nat.reduceBEq, reduceCtorEq, *])) | (((refine cv_ptE rfl rfl rfl (by simp; done) (by ((simp only [push_cast]; done))) ?_)) <;> (try simp only [push_cast, htz])) | exact all2_cl (by ((simp [push_cast]; done))))
  have hd3 : decide ((b.length : Int) > 8128) = false := by simpa using h3
  simp only [hd3, cond_false]
  have c := tag'_p key b (by omega) (by omega)
  have hl := tagB_length key b
  generalize tagB key b = t at *
  have ht : List.take 32 (t.map u8c) = t.map u8c := List.take_of_length_le (by simp; omega)
  obtain ⟨c, hb, hl⟩ := l36
  refine pcall_of mixed e36 hb rfl hl r36 (by rw [n36]; simp) ?_
  clear hb hl c
  (try simp only [push_cast, Nat.reduceAdd, Nat.reduceBEq, reduceCtorEq, hd, hd2, hd3])
  repeat' (first | ((first | (apply sc_p; (case h => (exact c)); (case hc => ((simp only [push_cast]; done)))) | refine ret_frz rfl ?_ (by ((simp only [push_cast, Nat.reduceBEq, hl]; done))) (by ((simp only [push_cast, Nat.reduceBEq, ht]; done))) (by ((simp only [push_cast]; done)))) <;> (try simp only [push_cast, Nat.zero_lt_succ, Nat.reduceAdd, Nat.reduceBEq, *])) | (((refine cv_ptE rfl rfl rfl (by simp; done) (by ((simp only [push_cast, hl]; done))) ?_)) <;> (try simp only [push_cast, ht, hl])) | exact all2_cl (by ((simp only [push_cast]; done))))
theorem law6 (b : List UInt8) (hl : b.length < 2 ^ 48) : PCall prog 6 [bsV b] (.bool true) := by
  have c1 := sum_p b hl
  have c2 := summed_p b
  rw [sumS, shaB_eq] at c1
  rw [summS] at c2
  have hdr : List.drop 32 (rep 32 (.int .u8 0)) = [] := List.drop_of_length_le (by rw [rep_len]; omega)
  have htz : List.take 32 (rep 32 (AV.int .u8 0)) = rep 32 (AV.int .u8 0) := List.take_of_length_le (by rw [rep_len]; omega)
  by_cases hb : (b.length : Int) > 8192
  · have hd : decide ((b.length : Int) > 8192) = true := by simpa using hb
    have hz : rep 32 (AV.int .u8 0) = (List.replicate 32 (0 : UInt8)).map u8c := rep_map (f := u8c) (x := 0)
    have e1 := eqa32 (X := List.replicate 32 0) (Y := List.replicate 32 0) rfl rfl false
    have e2 := eqc32 (X := List.replicate 32 0) (Y := List.replicate 32 0) rfl rfl
    rw [← hz, L32_lit] at e1 e2
    clear hz
    simp only [hd, cond_true] at c1 c2
    obtain ⟨c, hb, hl⟩ := l6
    refine pcall_of mixed e6 hb rfl hl r6 (by rw [n6]; simp) ?_
    clear hb hl c
    (try simp only [push_cast, Nat.reduceAdd, Nat.reduceBEq])
    repeat' ((((first | (apply sc_p; (case h => first | exact c1 | exact c2); (case hc => ((simp only [push_cast]; done)))) | refine ret_frz rfl ?_ (by ((simp only [push_cast]; done))) (by ((simp only [push_cast]; done))) (by ((simp only [push_cast]; done)))) <;> (try simp only [push_cast, Nat.zero_lt_succ, Nat.reduceAdd, Nat.reduceBEq, reduceCtorEq, *]))))
  · have hd : decide ((b.length : Int) > 8192) = false := by simpa using hb
    simp only [hd, cond_false] at c1 c2
    have hw := shaW_length b
    have e1 := eqa32 hw hw false
    have e2 := eqc32 hw hw
    rw [L32_lit] at e1 e2
    generalize shaW b = w at *
    have ht : List.take 32 (w.map u8c) = w.map u8c := List.take_of_length_le (by simp; omega)
    obtain ⟨c, hb, hl⟩ := l6
    refine pcall_of mixed e6 hb rfl hl r6 (by rw [n6]; simp) ?_
    clear hb hl c
    (try simp only [push_cast, Nat.reduceAdd, Nat.reduceBEq])
    repeat' ((((first | (apply sc_p; (case h => first | exact c1 | exact c2); (case hc => ((simp only [push_cast]; done)))) | refine ret_frz rfl ?_ (by ((simp only [push_cast]; done))) (by ((simp only [push_cast]; done))) (by ((simp only [push_cast]; done)))) <;> (try simp only [push_cast, Nat.zero_lt_succ, Nat.reduceAdd, Nat.reduceBEq, reduceCtorEq, *]))))
end Go.Proofs.YtggmkfagcjdifaaDoor
