/-
  SHA: numbers as bytes, and SHA-256, on plain numbers; no program.
-/
import Derived.Laws.BitsAllLaws
import Derived.Laws.Entries
import Derived.IntWalk
set_option linter.unusedVariables false
set_option linter.unusedSimpArgs false
set_option maxRecDepth 100000
namespace Go.Proofs.YtggmkfagcjdifaaDoor.Sh
set_option linter.unusedSimpArgs false
set_option linter.unusedVariables false
set_option linter.unnecessarySimpa false
set_option linter.unusedSectionVars false
open Go.RowKit
def u8v (x : UInt8) : Value := .int .u8 (x.toNat : Int)



/-- 'n' in 's' bytes, highest first (cut to what fits). -/
def be (n : Nat) : Nat → List UInt8
  | 0 => []
  | s + 1 => be (n / 256) s ++ [UInt8.ofNat n]
theorem be_length (n s : Nat) : (be n s).length = s := by
  induction s generalizing n with
  | zero => rfl
  | succ s ih => simp [be, ih]
theorem be_succ (n s : Nat) : be n (s + 1) = be (n / 256) s ++ [UInt8.ofNat n] := rfl
theorem ofNat_toNat (n : Nat) : (UInt8.ofNat n).toNat = n % 256 := by simp
theorem pow_step (n k : Nat) : n / 256 ^ (k + 1) = n / 256 ^ k / 256 := by
  rw [Nat.pow_succ, Nat.div_div_eq_div_mul]
/-- one more byte behind those that lie already. -/
theorem be_more (n s k : Nat) (h : k < s) : be (n / 256 ^ (s - k)) k ++ [UInt8.ofNat (n / 256 ^ (s - (k + 1)))] = be (n / 256 ^ (s - (k + 1))) (k + 1) := by
  rw [be_succ, ← pow_step, show s - (k + 1) + 1 = s - k from by omega]
theorem shr_pow (n k : Nat) : n >>> (8 * k) = n / 256 ^ k := by
  rw [Nat.shiftRight_eq_div_pow, Nat.pow_mul]
theorem u8v_ofNat (n : Nat) : Value.int .u8 ((n : Int) % 256) = u8v (UInt8.ofNat n) := by
  unfold u8v
  rw [ofNat_toNat]
  simp
theorem or_byte (a : Nat) (x : UInt8) (ha : a < 72057594037927936) : bits .or .u64 ((a : Int) * 256) (x.toNat : Int) = ((256 * a + x.toNat : Nat) : Int) := by
  have hx := x.toNat_lt
  have h := u64_or_nat (a * 256) x.toNat (by omega) (by omega)
  rw [nat_join 8 (a * 256) x.toNat (by omega) (by omega)] at h
  rw [show ((a : Int) * 256) = ((a * 256 : Nat) : Int) from by simp, h, Nat.mul_comm]
theorem shr_int (n k : Nat) : (n : Int) / 2 ^ (8 * k) = ((n / 256 ^ k : Nat) : Int) := by
  rw [Int.natCast_ediv, show (256 : Nat) = 2 ^ 8 from rfl, ← Nat.pow_mul]
  simp
theorem shr_ne {n k : Nat} (h : n / 256 ^ k ≠ 0) : ((n : Int) / 2 ^ (8 * k) != 0) = true := by
  rw [shr_int, bne_iff_ne]; omega
theorem shr_eq {n k : Nat} (h : n / 256 ^ k = 0) : ((n : Int) / 2 ^ (8 * k) != 0) = false := by
  rw [shr_int, h]; rfl
theorem u8v_shr (n k : Nat) : Value.int .u8 ((n : Int) / 2 ^ (8 * k) % 256) = u8v (UInt8.ofNat (n / 256 ^ k)) := by
  rw [← u8v_ofNat]
  congr 1
  have : (n : Int) / 2 ^ (8 * k) = ((n / 256 ^ k : Nat) : Int) := by
    rw [Int.natCast_ediv, show (256 : Nat) = 2 ^ 8 from rfl, ← Nat.pow_mul]
    simp
  rw [this]
theorem be_cons (n k : Nat) : be n (k + 1) = UInt8.ofNat (n / 256 ^ k) :: be n k := by
  induction k generalizing n with
  | zero => simp [be]
  | succ k ih =>
    rw [be_succ, ih (n / 256), be_succ n k]
    simp only [List.cons_append, List.cons.injEq, and_true]
    rw [Nat.div_div_eq_div_mul, Nat.pow_succ, Nat.mul_comm]

/-- The number in bytes, highest first. -/
def val (l : List UInt8) : Nat := l.foldl (fun n x => 256 * n + x.toNat) 0
theorem val_nil : val [] = 0 := rfl
theorem val_snoc (l : List UInt8) (x : UInt8) : val (l ++ [x]) = 256 * val l + x.toNat := by simp [val]
theorem take_snoc {l : List UInt8} {k : Nat} {x : UInt8} (h : l[k]? = some x) : l.take (k + 1) = l.take k ++ [x] := by
  rw [List.take_add_one, h]; rfl
theorem val_lt (l : List UInt8) : val l < 256 ^ l.length := by
  have h : ∀ k, k ≤ l.length → val (l.take k) < 256 ^ k := by
    intro k
    induction k with
    | zero => intro _; simp [val]
    | succ k ih =>
      intro hk
      rw [take_snoc (List.getElem?_eq_getElem (show k < l.length by omega)), val_snoc, Nat.pow_succ]
      have h1 := ih (by omega)
      have h2 := (l[k]'(by omega)).toNat_lt
      omega
  simpa using h l.length (Nat.le_refl _)
theorem val_lt8 {l : List UInt8} (h : l.length ≤ 8) : val l < 18446744073709551616 := by
  have h1 := val_lt l
  have h2 : 256 ^ l.length ≤ 256 ^ 8 := Nat.pow_le_pow_right (by omega) h
  have h3 : (256 : Nat) ^ 8 = 18446744073709551616 := by decide
  omega
theorem val_lt7 {l : List UInt8} (h : l.length ≤ 7) : val l < 72057594037927936 := by
  have h1 := val_lt l
  have h2 : 256 ^ l.length ≤ 256 ^ 7 := Nat.pow_le_pow_right (by omega) h
  have h3 : (256 : Nat) ^ 7 = 72057594037927936 := by decide
  omega

/-- What TakeBytes comes to: the bytes, the index after them, the error's number. -/
def takeBytesS (l : List UInt8) (at_ m : Int) : List UInt8 × Int × Int :=
  if at_ < 0 ∨ (l.length : Int) < at_ ∨ m < 0 then ([], 0, 2)
  else if (l.length : Int) - at_ < m then ([], 0, 10)
  else ((l.drop at_.toNat).take m.toNat, at_ + m, 0)
/-- What PutUint comes to. -/
def putUintS (l : List UInt8) (n : Nat) (s : Int) : List UInt8 × Int :=
  if s < 1 ∨ 8 < s ∨ n / 256 ^ s.toNat ≠ 0 then ([], 2)
  else if 8192 - s < (l.length : Int) then ([], 4)
  else (l ++ be n s.toNat, 0)
/-- What TakeUint comes to. -/
def takeUintS (l : List UInt8) (at_ s : Int) : Nat × Int × Int :=
  if s < 1 ∨ 8 < s then (0, 0, 2)
  else (val (takeBytesS l at_ s).1, (takeBytesS l at_ s).2.1, (takeBytesS l at_ s).2.2)
theorem takeBytesS_len (l : List UInt8) (at_ m : Int) (h : 0 ≤ m) : ((takeBytesS l at_ m).1.length : Int) ≤ m := by
  unfold takeBytesS
  split
  · simpa using h
  · split
    · simpa using h
    · simp; omega
theorem takeBytesS_le (l : List UInt8) (at_ m : Int) : (takeBytesS l at_ m).1.length ≤ l.length := by
  unfold takeBytesS
  split
  · simp
  · split
    · simp
    · simp; omega
theorem takeBytesS_err (l : List UInt8) (at_ m : Int) (h : (takeBytesS l at_ m).2.2 ≠ 0) : (takeBytesS l at_ m).1 = [] ∧ (takeBytesS l at_ m).2.1 = 0 := by
  unfold takeBytesS at h ⊢
  split
  · exact ⟨rfl, rfl⟩
  · split
    · exact ⟨rfl, rfl⟩
    · rename_i h1 h2
      rw [if_neg h1, if_neg h2] at h
      exact absurd rfl h



/-- A word rotated right. -/
def rotr (x n : Nat) : Nat := x / 2 ^ n + x % 2 ^ n * 2 ^ (32 - n)
theorem rotr_lt {x n : Nat} (hx : x < 4294967296) (hn : n ≤ 32) : rotr x n < 4294967296 := by
  unfold rotr
  have h1 : 2 ^ n * 2 ^ (32 - n) = 4294967296 := by rw [← Nat.pow_add]; rw [show n + (32 - n) = 32 from by omega]
  have hp : 0 < 2 ^ (32 - n) := Nat.pow_pos (by omega)
  have hq : 0 < 2 ^ n := Nat.pow_pos (by omega)
  have h2 : x / 2 ^ n < 2 ^ (32 - n) := Nat.div_lt_of_lt_mul (by rw [h1]; exact hx)
  have h3 : x % 2 ^ n < 2 ^ n := Nat.mod_lt _ hq
  have h4 : (x % 2 ^ n + 1) * 2 ^ (32 - n) ≤ 2 ^ n * 2 ^ (32 - n) := Nat.mul_le_mul_right _ h3
  rw [Nat.add_mul, Nat.one_mul] at h4
  omega
/-- The shift to the left and the shift to the right, joined. -/
theorem rot_join {x n : Nat} (hx : x < 4294967296) (hn : n ≤ 32) : (x * 2 ^ (32 - n) % 4294967296) ||| (x / 2 ^ n) = rotr x n := by
  have h1 : 2 ^ n * 2 ^ (32 - n) = 4294967296 := by rw [← Nat.pow_add]; rw [show n + (32 - n) = 32 from by omega]
  have h2 : x / 2 ^ n < 2 ^ (32 - n) := Nat.div_lt_of_lt_mul (by rw [h1]; exact hx)
  have h3 : x * 2 ^ (32 - n) % 4294967296 = x % 2 ^ n * 2 ^ (32 - n) := by rw [← h1, Nat.mul_mod_mul_right]
  rw [h3, nat_join (32 - n) _ _ (Nat.mul_mod_left _ _) h2]
  unfold rotr
  omega
theorem rot_bits {x n m : Nat} (hm : m = 32 - n) (hx : x < 4294967296) (hn : n ≤ 32) : bits .or .u32 ((x : Int) * 2 ^ m % 4294967296) ((x : Int) / 2 ^ (32 - m)) = (rotr x n : Int) := by
  subst hm
  have e1 : (x : Int) * 2 ^ (32 - n) % 4294967296 = ((x * 2 ^ (32 - n) % 4294967296 : Nat) : Int) := by simp
  have e2 : (x : Int) / 2 ^ (32 - (32 - n)) = ((x / 2 ^ n : Nat) : Int) := by rw [show 32 - (32 - n) = n from by omega]; simp
  rw [e1, e2, u32_or_nat _ _ (Nat.mod_lt _ (by omega)) (Nat.lt_of_le_of_lt (Nat.div_le_self _ _) hx), rot_join hx hn]

theorem xor_lt {a b : Nat} (ha : a < 4294967296) (hb : b < 4294967296) : a ^^^ b < 4294967296 := Nat.xor_lt_two_pow (n := 32) ha hb
theorem and_lt {a b : Nat} (hb : b < 4294967296) : a &&& b < 4294967296 := Nat.and_lt_two_pow (n := 32) a hb
theorem xor_u32 {a b : Nat} (ha : a < 4294967296) (hb : b < 4294967296) : bits .xor .u32 (a : Int) (b : Int) = ((a ^^^ b : Nat) : Int) := u32_xor_nat a b ha hb
theorem and_u32 {a b : Nat} (ha : a < 4294967296) (hb : b < 4294967296) : bits .and .u32 (a : Int) (b : Int) = ((a &&& b : Nat) : Int) := u32_and_nat a b ha hb

def big1 (e : Nat) : Nat := rotr e 6 ^^^ rotr e 11 ^^^ rotr e 25
def big0 (a : Nat) : Nat := rotr a 2 ^^^ rotr a 13 ^^^ rotr a 22
def ch (e f g : Nat) : Nat := e &&& f ^^^ (4294967295 ^^^ e) &&& g
def maj (a b c : Nat) : Nat := a &&& b ^^^ a &&& c ^^^ b &&& c
theorem big1_bits {e : Nat} (h : e < 4294967296) : bits .xor .u32 (bits .xor .u32 (rotr e 6 : Int) (rotr e 11 : Int)) (rotr e 25 : Int) = (big1 e : Int) := by
  have h1 := rotr_lt (n := 6) h (by omega)
  have h2 := rotr_lt (n := 11) h (by omega)
  have h3 := rotr_lt (n := 25) h (by omega)
  rw [xor_u32 h1 h2, xor_u32 (xor_lt h1 h2) h3]; rfl
theorem big0_bits {e : Nat} (h : e < 4294967296) : bits .xor .u32 (bits .xor .u32 (rotr e 2 : Int) (rotr e 13 : Int)) (rotr e 22 : Int) = (big0 e : Int) := by
  have h1 := rotr_lt (n := 2) h (by omega)
  have h2 := rotr_lt (n := 13) h (by omega)
  have h3 := rotr_lt (n := 22) h (by omega)
  rw [xor_u32 h1 h2, xor_u32 (xor_lt h1 h2) h3]; rfl
theorem ch_bits {e f g : Nat} (he : e < 4294967296) (hf : f < 4294967296) (hg : g < 4294967296) :
    bits .xor .u32 (bits .and .u32 (e : Int) (f : Int)) (bits .and .u32 (bits .xor .u32 IntKind.u32.max (e : Int)) (g : Int)) = (ch e f g : Int) := by
  have hm : IntKind.u32.max = ((4294967295 : Nat) : Int) := rfl
  rw [hm, and_u32 he hf, xor_u32 (by omega) he, and_u32 (xor_lt (by omega) he) hg, xor_u32 (and_lt hf) (and_lt hg)]
  rfl
theorem maj_bits {a b c : Nat} (ha : a < 4294967296) (hb : b < 4294967296) (hc : c < 4294967296) :
    bits .xor .u32 (bits .xor .u32 (bits .and .u32 (a : Int) (b : Int)) (bits .and .u32 (a : Int) (c : Int))) (bits .and .u32 (b : Int) (c : Int)) = (maj a b c : Int) := by
  rw [and_u32 ha hb, and_u32 ha hc, and_u32 hb hc, xor_u32 (and_lt hb) (and_lt hc), xor_u32 (xor_lt (and_lt hb) (and_lt hc)) (and_lt hc)]
  rfl

/-- A state: eight words. -/
structure St where
  a : Nat
  b : Nat
  c : Nat
  d : Nat
  e : Nat
  f : Nat
  g : Nat
  h : Nat
/-- Each word is below 2^32. -/
structure St.ok (s : St) : Prop where
  a : s.a < 4294967296
  b : s.b < 4294967296
  c : s.c < 4294967296
  d : s.d < 4294967296
  e : s.e < 4294967296
  f : s.f < 4294967296
  g : s.g < 4294967296
  h : s.h < 4294967296
/-- One round. -/
def St.step (s : St) (k x : Nat) : St :=
  { a := (s.h + big1 s.e + ch s.e s.f s.g + k + x + (big0 s.a + maj s.a s.b s.c)) % 4294967296
    b := s.a, c := s.b, d := s.c
    e := (s.d + (s.h + big1 s.e + ch s.e s.f s.g + k + x)) % 4294967296
    f := s.e, g := s.f, h := s.g }
theorem St.ok.step {s : St} (h : s.ok) (k x : Nat) : (s.step k x).ok :=
  ⟨Nat.mod_lt _ (by omega), h.a, h.b, h.c, Nat.mod_lt _ (by omega), h.e, h.f, h.g⟩
def u32v (n : Nat) : Value := .int .u32 (n : Int)
def St.vals (s : St) : Array Value := #[u32v s.a, u32v s.b, u32v s.c, u32v s.d, u32v s.e, u32v s.f, u32v s.g, u32v s.h]
/-- Words as cells. -/
def wv (ws : List Nat) : Array Value := (ws.map u32v).toArray
theorem wv_size (ws : List Nat) : (wv ws).size = ws.length := by simp [wv]
theorem wv_at {ws : List Nat} {j x : Nat} (h : ws[j]? = some x) : (wv ws)[j]? = some (u32v x) := by simp [wv, h]
theorem wv_set (ws : List Nat) (j x : Nat) : (wv ws).setIfInBounds j (u32v x) = wv (ws.set j x) := by
  simp [wv, List.map_set]
theorem wv_one (ws : List Nat) : (wv ws).all (·.oneCell') = true := by
  simp only [wv, Array.all_eq_true_iff_forall_mem, List.mem_toArray, List.mem_map]
  rintro x ⟨n, _, rfl⟩
  rfl



/-- The two mixings of schedule. -/
def sig0 (x : Nat) : Nat := rotr x 7 ^^^ rotr x 18 ^^^ x / 8
def sig1 (x : Nat) : Nat := rotr x 17 ^^^ rotr x 19 ^^^ x / 1024
theorem sig0_lt {x : Nat} (h : x < 4294967296) : sig0 x < 4294967296 := xor_lt (xor_lt (rotr_lt h (by omega)) (rotr_lt h (by omega))) (by omega)
theorem sig1_lt {x : Nat} (h : x < 4294967296) : sig1 x < 4294967296 := xor_lt (xor_lt (rotr_lt h (by omega)) (rotr_lt h (by omega))) (by omega)

/-- The word number i, of the bytes l, behind the words that lie already. -/
def nextWord (l : List UInt8) (ws : List Nat) (i : Nat) : Nat :=
  if i < 16 then val ((l.drop (4 * i)).take 4)
  else (ws.getD (i - 16) 0 + sig0 (ws.getD (i - 15) 0) + ws.getD (i - 7) 0 + sig1 (ws.getD (i - 2) 0)) % 4294967296
/-- The first words of a block. -/
def words (l : List UInt8) : Nat → List Nat
  | 0 => []
  | i + 1 => words l i ++ [nextWord l (words l i) i]
theorem words_length (l : List UInt8) (i : Nat) : (words l i).length = i := by
  induction i with
  | zero => rfl
  | succ i ih => simp [words, ih]
theorem nextWord_lt (l : List UInt8) (ws : List Nat) (i : Nat) : nextWord l ws i < 4294967296 := by
  unfold nextWord
  split
  · have h := val_lt ((l.drop (4 * i)).take 4)
    have h2 : ((l.drop (4 * i)).take 4).length ≤ 4 := by simp; omega
    have h3 : 256 ^ ((l.drop (4 * i)).take 4).length ≤ 256 ^ 4 := Nat.pow_le_pow_right (by omega) h2
    have h4 : (256 : Nat) ^ 4 = 4294967296 := by decide
    omega
  · exact Nat.mod_lt _ (by omega)
theorem words_lt (l : List UInt8) (i : Nat) : ∀ x ∈ words l i, x < 4294967296 := by
  induction i with
  | zero => intro x hx; simp [words] at hx
  | succ i ih =>
    intro x hx
    simp only [words, List.mem_append, List.mem_singleton] at hx
    rcases hx with hx | rfl
    · exact ih x hx
    · exact nextWord_lt _ _ _

/-- The 64 words behind k bytes: those that are not begun are 0. -/
def partWords (l : List UInt8) (k : Nat) : List Nat := (List.range 64).map fun j => val (((l.take k).drop (4 * j)).take 4)
theorem partWords_length (l : List UInt8) (k : Nat) : (partWords l k).length = 64 := by simp [partWords]
theorem partWords_at (l : List UInt8) (k j : Nat) (hj : j < 64) : (partWords l k)[j]? = some (val (((l.take k).drop (4 * j)).take 4)) := by
  simp [partWords, hj]
theorem partWords_zero (l : List UInt8) : partWords l 0 = List.replicate 64 0 := by
  apply List.ext_getElem?
  intro j
  by_cases hj : j < 64
  · rw [partWords_at l 0 j hj, List.getElem?_replicate, if_pos hj]; simp [val]
  · simp [partWords, hj]
theorem part_lt (l : List UInt8) {k j : Nat} (h : k ≤ 4 * j + 3) : val (((l.take k).drop (4 * j)).take 4) < 16777216 := by
  have h1 := val_lt (((l.take k).drop (4 * j)).take 4)
  have h2 : (((l.take k).drop (4 * j)).take 4).length ≤ 3 := by simp; omega
  have h3 : 256 ^ (((l.take k).drop (4 * j)).take 4).length ≤ 256 ^ 3 := Nat.pow_le_pow_right (by omega) h2
  have h4 : (256 : Nat) ^ 3 = 16777216 := by decide
  omega
theorem partWords_step (l : List UInt8) {k : Nat} {x : UInt8} (hx : l[k]? = some x) (hk : k < 64) :
    partWords l (k + 1) = (partWords l k).set (k / 4) (256 * val (((l.take k).drop (4 * (k / 4))).take 4) + x.toNat) := by
  have hkl : k < l.length := (List.getElem?_eq_some_iff.1 hx).1
  apply List.ext_getElem?
  intro j
  by_cases hj : j < 64
  · rw [partWords_at l (k + 1) j hj, List.getElem?_set]
    by_cases e : k / 4 = j
    · subst e
      have hA : ((l.take k).drop (4 * (k / 4))).length ≤ 3 := by simp; omega
      rw [if_pos rfl, if_pos (by rw [partWords_length]; omega), take_snoc hx, List.drop_append_of_le_length (by simp; omega)]
      generalize (l.take k).drop (4 * (k / 4)) = A at hA
      rw [List.take_of_length_le (i := 4) (l := A ++ [x]) (by simp; omega), List.take_of_length_le (i := 4) (l := A) (by omega), val_snoc]
    · rw [if_neg e, partWords_at l k j hj, take_snoc hx]
      by_cases h1 : k < 4 * j
      · rw [List.drop_of_length_le (by simp; omega), List.drop_of_length_le (by simp; omega)]
      · rw [List.drop_append_of_le_length (by simp; omega), List.take_append_of_le_length (by simp; omega)]
  · simp [partWords, hj]
theorem partWords_full (l : List UInt8) (h : l.length = 64) : partWords l 64 = words l 16 ++ List.replicate 48 0 := by
  have hw : ∀ i, i ≤ 16 → words l i = (List.range i).map fun j => val ((l.drop (4 * j)).take 4) := by
    intro i
    induction i with
    | zero => intro _; rfl
    | succ i ih =>
      intro hi
      rw [words, ih (by omega), List.range_succ, List.map_append]
      simp only [nextWord, if_pos (show i < 16 by omega), List.map_cons, List.map_nil]
  apply List.ext_getElem?
  intro j
  rw [hw 16 (by omega)]
  by_cases hj : j < 64
  · rw [partWords_at l 64 j hj, List.take_of_length_le (i := 64) (l := l) (by omega), List.getElem?_append]
    by_cases h16 : j < 16
    · rw [if_pos (by simp; omega)]; simp [h16]
    · rw [if_neg (by simp; omega), List.getElem?_replicate, if_pos (by simp; omega), List.drop_of_length_le (by omega)]
      simp [val]
  · rw [List.getElem?_eq_none (by rw [partWords_length]; omega), List.getElem?_eq_none (by simp; omega)]
/-- The words that lie, and zeros. -/
def padded (l : List UInt8) (i : Nat) : List Nat := words l i ++ List.replicate (64 - i) 0
theorem padded_length (l : List UInt8) {i : Nat} (h : i ≤ 64) : (padded l i).length = 64 := by simp [padded, words_length]; omega
theorem padded_at (l : List UInt8) {i j : Nat} (h : j < i) : (padded l i)[j]? = some ((words l i).getD j 0) := by
  unfold padded
  rw [List.getElem?_append_left (by rw [words_length]; exact h), List.getD_eq_getElem?_getD, List.getElem?_eq_getElem (by rw [words_length]; exact h)]
  rfl
theorem padded_step (l : List UInt8) {i : Nat} (h : i < 64) : padded l (i + 1) = (padded l i).set i (nextWord l (words l i) i) := by
  unfold padded
  rw [words, List.set_append_right _ _ (by rw [words_length]; omega), words_length, Nat.sub_self, show 64 - i = (64 - (i + 1)) + 1 from by omega, List.replicate_succ, List.set_cons_zero, List.append_assoc]
  rfl
/-- All words of a block. -/
@[irreducible] def sched (l : List UInt8) : List Nat := words l 64
theorem sched_length (l : List UInt8) : (sched l).length = 64 := by unfold sched; exact words_length l 64
theorem sched_lt (l : List UInt8) : ∀ x ∈ sched l, x < 4294967296 := by unfold sched; exact words_lt l 64
theorem padded_full (l : List UInt8) : padded l 64 = sched l := by unfold sched; simp [padded]
theorem words_at_lt (l : List UInt8) (i j : Nat) : (words l i).getD j 0 < 4294967296 := by
  rw [List.getD_eq_getElem?_getD]
  by_cases h : j < (words l i).length
  · rw [List.getElem?_eq_getElem h]
    exact words_lt l i _ (List.getElem_mem h)
  · rw [List.getElem?_eq_none (by omega)]; simp
theorem or_byte32 (a : Nat) (x : UInt8) (ha : a < 16777216) : bits .or .u32 ((a : Int) * 256) (x.toNat : Int) = ((256 * a + x.toNat : Nat) : Int) := by
  have hx := x.toNat_lt
  have h := u32_or_nat (a * 256) x.toNat (by omega) (by omega)
  rw [nat_join 8 (a * 256) x.toNat (by omega) (by omega)] at h
  rw [show ((a : Int) * 256) = ((a * 256 : Nat) : Int) from by simp, h, Nat.mul_comm]
theorem nextWord_late (l : List UInt8) (ws : List Nat) {i : Nat} (h : 16 ≤ i) :
    nextWord l ws i = (ws.getD (i - 16) 0 + sig0 (ws.getD (i - 15) 0) + ws.getD (i - 7) 0 + sig1 (ws.getD (i - 2) 0)) % 4294967296 := by
  unfold nextWord
  rw [if_neg (by omega)]
theorem sum4 (a b c d : Nat) : ((a : Int) + (b : Int) + (c : Int) + (d : Int)) % 4294967296 = (((a + b + c + d) % 4294967296 : Nat) : Int) := by
  omega



/-- The constants of the rounds. -/
def rc : List Nat := [
  1116352408, 1899447441, 3049323471, 3921009573, 961987163, 1508970993, 2453635748, 2870763221, 3624381080, 310598401, 607225278, 1426881987, 1925078388, 2162078206, 2614888103, 3248222580,
  3835390401, 4022224774, 264347078, 604807628, 770255983, 1249150122, 1555081692, 1996064986, 2554220882, 2821834349, 2952996808, 3210313671, 3336571891, 3584528711, 113926993, 338241895,
  666307205, 773529912, 1294757372, 1396182291, 1695183700, 1986661051, 2177026350, 2456956037, 2730485921, 2820302411, 3259730800, 3345764771, 3516065817, 3600352804, 4094571909, 275423344,
  430227734, 506948616, 659060556, 883997877, 958139571, 1322822218, 1537002063, 1747873779, 1955562222, 2024104815, 2227730452, 2361852424, 2428436474, 2756734187, 3204031479, 3329325298]
theorem rc_length : rc.length = 64 := rfl
/-- The state behind k rounds. -/
def rounds (s : St) (ws : List Nat) : Nat → St
  | 0 => s
  | k + 1 => (rounds s ws k).step (rc.getD k 0) (ws.getD k 0)
theorem rounds_ok {s : St} (h : s.ok) (ws : List Nat) (k : Nat) : (rounds s ws k).ok := by
  induction k with
  | zero => exact h
  | succ k ih => exact ih.step _ _
/-- The sum of two states, word by word. -/
def St.add (m s : St) : St :=
  { a := (m.a + s.a) % 4294967296, b := (m.b + s.b) % 4294967296, c := (m.c + s.c) % 4294967296, d := (m.d + s.d) % 4294967296
    e := (m.e + s.e) % 4294967296, f := (m.f + s.f) % 4294967296, g := (m.g + s.g) % 4294967296, h := (m.h + s.h) % 4294967296 }
theorem St.add_ok (m s : St) : (m.add s).ok :=
  ⟨Nat.mod_lt _ (by omega), Nat.mod_lt _ (by omega), Nat.mod_lt _ (by omega), Nat.mod_lt _ (by omega), Nat.mod_lt _ (by omega), Nat.mod_lt _ (by omega), Nat.mod_lt _ (by omega), Nat.mod_lt _ (by omega)⟩
/-- The state behind a block. -/
@[irreducible] def mixed (s : St) (l : List UInt8) : St := rounds s (sched l) 64
theorem mixed_eq (s : St) (l : List UInt8) : rounds s (sched l) 64 = mixed s l := by unfold mixed; rfl
theorem mixed_ok {s : St} (h : s.ok) (l : List UInt8) : (mixed s l).ok := by unfold mixed; exact rounds_ok h _ _
def compress (s : St) (l : List UInt8) : St := (mixed s l).add s
theorem compress_ok (s : St) (l : List UInt8) : (compress s l).ok := St.add_ok _ _

/-- The words of a state. -/
def St.list (s : St) : List Nat := [s.a, s.b, s.c, s.d, s.e, s.f, s.g, s.h]
theorem vals_eq (s : St) : s.vals = wv s.list := rfl
theorem St.list_length (s : St) : s.list.length = 8 := rfl
/-- The first k words summed, the others as they are. -/
def sumTo (ms ss : List Nat) (k : Nat) : List Nat := (List.range 8).map fun j => if j < k then (ms.getD j 0 + ss.getD j 0) % 4294967296 else ms.getD j 0
theorem sumTo_length (ms ss : List Nat) (k : Nat) : (sumTo ms ss k).length = 8 := by simp [sumTo]
theorem sumTo_zero (m s : St) : sumTo m.list s.list 0 = m.list := rfl
theorem sumTo_full (m s : St) : sumTo m.list s.list 8 = (m.add s).list := rfl
theorem sumTo_at (ms ss : List Nat) (k : Nat) (h : k < 8) : (sumTo ms ss k)[k]? = some (ms.getD k 0) := by simp [sumTo, h]
theorem sumTo_step (ms ss : List Nat) (k : Nat) (h : k < 8) : sumTo ms ss (k + 1) = (sumTo ms ss k).set k ((ms.getD k 0 + ss.getD k 0) % 4294967296) := by
  apply List.ext_getElem?
  intro j
  rw [List.getElem?_set, sumTo_length]
  by_cases hj : j < 8
  · by_cases e : k = j
    · subst e; simp [sumTo, h]
    · rw [if_neg e]
      simp only [sumTo, List.getElem?_map, List.getElem?_range hj, Option.map_some]
      by_cases h2 : j < k
      · rw [if_pos (by omega), if_pos h2]
      · rw [if_neg (by omega), if_neg h2]
  · rw [List.getElem?_eq_none (by rw [sumTo_length]; omega)]
    rw [if_neg (by omega), List.getElem?_eq_none (by rw [sumTo_length]; omega)]
theorem St.list_getD (s : St) {k : Nat} (h : k < 8) : s.list[k]? = some (s.list.getD k 0) := by
  rw [List.getD_eq_getElem?_getD, List.getElem?_eq_getElem (by rw [St.list_length]; exact h)]; rfl
end Go.Proofs.YtggmkfagcjdifaaDoor.Sh
