/-
  SHA-256 and HMAC over lists of bytes: hashes that are written in pieces. Plain facts, no condition.
-/
import Derived.Test.YtggmkfagcjdifaaDoorShA
set_option linter.unusedVariables false
set_option linter.unusedSimpArgs false
namespace Go.Proofs.YtggmkfagcjdifaaDoor.Sh
set_option linter.unusedSimpArgs false
set_option linter.unusedVariables false
set_option linter.unnecessarySimpa false
set_option linter.unusedSectionVars false
open Go
/-- The words in bytes, each highest first. -/
def sumBytes (s : St) : List UInt8 := s.list.flatMap fun x => be x 4
theorem flat4_length (l : List Nat) : (l.flatMap fun x => be x 4).length = 4 * l.length := by
  induction l with
  | nil => rfl
  | cons a l ih => rw [List.flatMap_cons, List.length_append, be_length, ih, List.length_cons]; omega
theorem sumBytes_length (s : St) : (sumBytes s).length = 32 := by rw [sumBytes, flat4_length]; rfl
theorem be4 (x : Nat) : be x 4 = [UInt8.ofNat (x / 256 ^ 3), UInt8.ofNat (x / 256 ^ 2), UInt8.ofNat (x / 256 ^ 1), UInt8.ofNat (x / 256 ^ 0)] := by
  rw [be_cons, be_cons, be_cons, be_cons]; rfl
theorem flat4_at (l : List Nat) (k j x : Nat) (hj : j < 4) (h : l[k]? = some x) : (l.flatMap fun x => be x 4)[4 * k + j]? = some (UInt8.ofNat (x / 256 ^ (3 - j))) := by
  induction l generalizing k with
  | nil => simp at h
  | cons a l ih =>
    rw [List.flatMap_cons]
    cases k with
    | zero =>
      simp at h
      subst h
      rw [List.getElem?_append_left (by rw [be_length]; omega), be4]
      match j, hj with
      | 0, _ => rfl
      | 1, _ => rfl
      | 2, _ => rfl
      | 3, _ => rfl
    | succ k =>
      rw [List.getElem?_append_right (by rw [be_length]; omega), be_length, show 4 * (k + 1) + j - 4 = 4 * k + j from by omega]
      exact ih k (by simpa using h)
/-- What follows n bytes before the last block is compressed. -/
def padBytes (n : Nat) : List UInt8 := 128 :: (List.replicate ((119 - n % 64) % 64) 0 ++ be (8 * n) 8)
theorem padBytes_length (n : Nat) : (padBytes n).length = 9 + (119 - n % 64) % 64 := by simp [padBytes, be_length]; omega
/-- The key with zero bytes up to 64, the first i combined with a pad. -/
def xr (X : List UInt8) (p : UInt8) (i : Nat) : List UInt8 := (X.take i).map (· ^^^ p) ++ X.drop i
theorem xr_length (X : List UInt8) (p : UInt8) (i : Nat) : (xr X p i).length = X.length := by simp [xr]; omega
theorem xr_zero (X : List UInt8) (p : UInt8) : xr X p 0 = X := by simp [xr]
theorem xr_full (X : List UInt8) (p : UInt8) {i : Nat} (h : X.length ≤ i) : xr X p i = X.map (· ^^^ p) := by simp [xr, List.take_of_length_le h, List.drop_of_length_le h]
theorem xr_at (X : List UInt8) (p : UInt8) {i : Nat} {x : UInt8} (h : X[i]? = some x) : (xr X p i)[i]? = some x := by
  have hi : i < X.length := (List.getElem?_eq_some_iff.1 h).1
  rw [xr, List.getElem?_append_right (by simp; omega)]
  simp [Nat.min_eq_left (Nat.le_of_lt hi), h]
theorem xr_set (X : List UInt8) (p : UInt8) {i : Nat} {x : UInt8} (h : X[i]? = some x) : (xr X p i).set i (x ^^^ p) = xr X p (i + 1) := by
  have hi : i < X.length := (List.getElem?_eq_some_iff.1 h).1
  have hx : X.drop i = x :: X.drop (i + 1) := by
    rw [List.drop_eq_getElem_cons hi]
    congr 1
    exact (List.getElem?_eq_some_iff.1 h).2
  unfold xr
  rw [List.set_append_right _ _ (by simp; omega), hx, List.take_add_one, h]
  simp [Nat.min_eq_left (Nat.le_of_lt hi)]
/-- The key in 64 bytes. -/
def key64 (key : List UInt8) : List UInt8 := key ++ List.replicate (64 - key.length) 0
theorem key64_length {key : List UInt8} (h : key.length ≤ 64) : (key64 key).length = 64 := by simp [key64]; omega
theorem xor_byte (x p : UInt8) : bits .xor .u8 (x.toNat : Int) (p.toNat : Int) = ((x ^^^ p).toNat : Int) := by
  rw [u8_xor_nat x.toNat p.toNat x.toNat_lt p.toNat_lt, UInt8.toNat_xor]

theorem absorb_lt {n : Nat} : n - 64 * (n / 64) < 64 := by omega
def absorbed (s : St) (l : List UInt8) : Nat → St
  | 0 => s
  | k + 1 => Sh.compress (absorbed s l k) ((l.drop (64 * k)).take 64)
theorem absorbed_ok {s : St} (h : s.ok) (l : List UInt8) (k : Nat) : (absorbed s l k).ok := by
  cases k with
  | zero => exact h
  | succ k => exact Sh.compress_ok _ _
def iv : St := ⟨1779033703, 3144134277, 1013904242, 2773480762, 1359893119, 2600822924, 528734635, 1541459225⟩
theorem iv_ok : iv.ok := by constructor <;> decide
/-- A hash: the state, what is left of a block, the number of bytes. -/
structure HS where
  s : St
  t : List UInt8
  n : Nat
def HS.write (h : HS) (b : List UInt8) : HS := ⟨absorbed h.s (h.t ++ b) ((h.t ++ b).length / 64), (h.t ++ b).drop (64 * ((h.t ++ b).length / 64)), h.n + b.length⟩
def HS.finish (h : HS) : List UInt8 := sumBytes (absorbed h.s (h.t ++ padBytes h.n) ((h.t ++ padBytes h.n).length / 64))
def HS.start : HS := ⟨iv, [], 0⟩
structure HS.ok (h : HS) : Prop where
  s : h.s.ok
  t : h.t.length = h.n % 64
  n : h.n ≤ 8192
theorem HS.ok.start : HS.start.ok := ⟨iv_ok, rfl, Nat.zero_le _⟩
theorem HS.ok.write {h : HS} (hh : h.ok) {b : List UInt8} (hb : h.n + b.length ≤ 8192) : (h.write b).ok := by
  refine ⟨absorbed_ok hh.s _ _, ?_, hb⟩
  have := hh.t
  simp only [HS.write, List.length_drop, List.length_append]
  omega
theorem HS.finish_length (h : HS) : h.finish.length = 32 := sumBytes_length _
def shaB (b : List UInt8) : List UInt8 := (HS.start.write b).finish
theorem shaB_length (b : List UInt8) : (shaB b).length = 32 := sumBytes_length _
def keyedB (X b : List UInt8) : List UInt8 := ((HS.start.write X).write b).finish
theorem keyedB_length (X b : List UInt8) : (keyedB X b).length = 32 := sumBytes_length _
/-- HMAC-SHA256. -/
def tagB (key l : List UInt8) : List UInt8 := keyedB ((key64 key).map (· ^^^ 92)) (keyedB ((key64 key).map (· ^^^ 54)) l)
theorem tagB_length (key l : List UInt8) : (tagB key l).length = 32 := keyedB_length _ _
def fillB (D : List UInt8) (i : Nat) : List UInt8 := D.take i ++ List.replicate (32 - i) 0
theorem fillB_len {D : List UInt8} (hD : D.length = 32) {i : Nat} (hi : i ≤ 32) : (fillB D i).length = 32 := by simp [fillB, hD]; omega
theorem fillB_full {D : List UInt8} (hD : D.length = 32) : fillB D 32 = D := by simp [fillB, ← hD]
theorem fillB_set {D : List UInt8} (hD : D.length = 32) {i : Nat} (hi : i < 32) {b : UInt8} (hb : D[i]? = some b) : (fillB D i).set i b = fillB D (i + 1) := by
  unfold fillB
  have hl : (D.take i).length = i := by rw [List.length_take, hD]; omega
  rw [List.set_append_right _ _ (by omega), hl, Nat.sub_self, show 32 - i = (32 - (i + 1)) + 1 from by omega, List.replicate_succ, List.set_cons_zero, List.take_add_one, hb]
  simp
theorem sum_at (s : St) {k j x : Nat} (hj : j < 4) (h : s.list[k]? = some x) : (sumBytes s)[4 * k + j]? = some (UInt8.ofNat (x / 256 ^ (3 - j))) := flat4_at _ k j x hj h
end Go.Proofs.YtggmkfagcjdifaaDoor.Sh
