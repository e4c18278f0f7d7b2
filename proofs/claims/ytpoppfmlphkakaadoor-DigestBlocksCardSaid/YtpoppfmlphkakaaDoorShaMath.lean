/-
  SHAMATH: the digest on plain numbers; no program.
-/
import Derived.Test.YtpoppfmlphkakaaDoorMath
namespace Go.Proofs.YtpoppfmlphkakaaDoor
set_option linter.unusedVariables false
set_option linter.unusedSimpArgs false
set_option maxRecDepth 100000
open Go.RowKit

/-- A word rotated right. -/
def rotr (x n : Nat) : Nat := x / 2 ^ n + x % 2 ^ n * 2 ^ (32 - n)
theorem rotr_lt {x n : Nat} (hx : x < 4294967296) (hn : n ≤ 32) : rotr x n < 4294967296 := by
  unfold rotr
  have h1 : 2 ^ n * 2 ^ (32 - n) = 4294967296 := by rw [← Nat.pow_add]; rw [show n + (32 - n) = 32 from by omega]
  have hp : 0 < 2 ^ (32 - n) := Nat.pow_pos (by omega)
  have hq : 0 < 2 ^ n := Nat.pow_pos (by omega)
  have h2 : x / 2 ^ n < 2 ^ (32 - n) := Nat.div_lt_of_lt_mul (by rw [h1]; exact hx)
  have h3 : x % 2 ^ n < 2 ^ n := Nat.mod_lt _ hq
  have h4 : (x % 2 ^ n + 1) * 2 ^ (32 - n) ≤ 2 ^ n * 2 ^ (32 - n) := Nat.mul_le_mul_right _ h3
  rw [Nat.add_mul, Nat.one_mul] at h4
  omega
/-- The shift to the left and the shift to the right, joined. -/
theorem rot_join {x n : Nat} (hx : x < 4294967296) (hn : n ≤ 32) : (x * 2 ^ (32 - n) % 4294967296) ||| (x / 2 ^ n) = rotr x n := by
  have h1 : 2 ^ n * 2 ^ (32 - n) = 4294967296 := by rw [← Nat.pow_add]; rw [show n + (32 - n) = 32 from by omega]
  have h2 : x / 2 ^ n < 2 ^ (32 - n) := Nat.div_lt_of_lt_mul (by rw [h1]; exact hx)
  have h3 : x * 2 ^ (32 - n) % 4294967296 = x % 2 ^ n * 2 ^ (32 - n) := by rw [← h1, Nat.mul_mod_mul_right]
  rw [h3, nat_join (32 - n) _ _ (Nat.mul_mod_left _ _) h2]
  unfold rotr
  omega
theorem rot_bits {x n m : Nat} (hm : m = 32 - n) (hx : x < 4294967296) (hn : n ≤ 32) : bits .or .u32 ((x : Int) * 2 ^ m % 4294967296) ((x : Int) / 2 ^ (32 - m)) = (rotr x n : Int) := by
  subst hm
  have e1 : (x : Int) * 2 ^ (32 - n) % 4294967296 = ((x * 2 ^ (32 - n) % 4294967296 : Nat) : Int) := by simp
  have e2 : (x : Int) / 2 ^ (32 - (32 - n)) = ((x / 2 ^ n : Nat) : Int) := by rw [show 32 - (32 - n) = n from by omega]; simp
  rw [e1, e2, u32_or_nat _ _ (Nat.mod_lt _ (by omega)) (Nat.lt_of_le_of_lt (Nat.div_le_self _ _) hx), rot_join hx hn]

theorem xor_lt {a b : Nat} (ha : a < 4294967296) (hb : b < 4294967296) : a ^^^ b < 4294967296 := Nat.xor_lt_two_pow (n := 32) ha hb
theorem and_lt {a b : Nat} (hb : b < 4294967296) : a &&& b < 4294967296 := Nat.and_lt_two_pow (n := 32) a hb
theorem xor_u32 {a b : Nat} (ha : a < 4294967296) (hb : b < 4294967296) : bits .xor .u32 (a : Int) (b : Int) = ((a ^^^ b : Nat) : Int) := u32_xor_nat a b ha hb
theorem and_u32 {a b : Nat} (ha : a < 4294967296) (hb : b < 4294967296) : bits .and .u32 (a : Int) (b : Int) = ((a &&& b : Nat) : Int) := u32_and_nat a b ha hb

def big1 (e : Nat) : Nat := rotr e 6 ^^^ rotr e 11 ^^^ rotr e 25
def big0 (a : Nat) : Nat := rotr a 2 ^^^ rotr a 13 ^^^ rotr a 22
def ch (e f g : Nat) : Nat := e &&& f ^^^ (4294967295 ^^^ e) &&& g
def maj (a b c : Nat) : Nat := a &&& b ^^^ a &&& c ^^^ b &&& c
theorem big1_bits {e : Nat} (h : e < 4294967296) : bits .xor .u32 (bits .xor .u32 (rotr e 6 : Int) (rotr e 11 : Int)) (rotr e 25 : Int) = (big1 e : Int) := by
  have h1 := rotr_lt (n := 6) h (by omega)
  have h2 := rotr_lt (n := 11) h (by omega)
  have h3 := rotr_lt (n := 25) h (by omega)
  rw [xor_u32 h1 h2, xor_u32 (xor_lt h1 h2) h3]; rfl
theorem big0_bits {e : Nat} (h : e < 4294967296) : bits .xor .u32 (bits .xor .u32 (rotr e 2 : Int) (rotr e 13 : Int)) (rotr e 22 : Int) = (big0 e : Int) := by
  have h1 := rotr_lt (n := 2) h (by omega)
  have h2 := rotr_lt (n := 13) h (by omega)
  have h3 := rotr_lt (n := 22) h (by omega)
  rw [xor_u32 h1 h2, xor_u32 (xor_lt h1 h2) h3]; rfl
theorem ch_bits {e f g : Nat} (he : e < 4294967296) (hf : f < 4294967296) (hg : g < 4294967296) :
    bits .xor .u32 (bits .and .u32 (e : Int) (f : Int)) (bits .and .u32 (bits .xor .u32 IntKind.u32.max (e : Int)) (g : Int)) = (ch e f g : Int) := by
  have hm : IntKind.u32.max = ((4294967295 : Nat) : Int) := rfl
  rw [hm, and_u32 he hf, xor_u32 (by omega) he, and_u32 (xor_lt (by omega) he) hg, xor_u32 (and_lt hf) (and_lt hg)]
  rfl
theorem maj_bits {a b c : Nat} (ha : a < 4294967296) (hb : b < 4294967296) (hc : c < 4294967296) :
    bits .xor .u32 (bits .xor .u32 (bits .and .u32 (a : Int) (b : Int)) (bits .and .u32 (a : Int) (c : Int))) (bits .and .u32 (b : Int) (c : Int)) = (maj a b c : Int) := by
  rw [and_u32 ha hb, and_u32 ha hc, and_u32 hb hc, xor_u32 (and_lt hb) (and_lt hc), xor_u32 (xor_lt (and_lt hb) (and_lt hc)) (and_lt hc)]
  rfl

/-- A state: eight words. -/
structure St where
  a : Nat
  b : Nat
  c : Nat
  d : Nat
  e : Nat
  f : Nat
  g : Nat
  h : Nat
/-- Each word is below 2^32. -/
structure St.ok (s : St) : Prop where
  a : s.a < 4294967296
  b : s.b < 4294967296
  c : s.c < 4294967296
  d : s.d < 4294967296
  e : s.e < 4294967296
  f : s.f < 4294967296
  g : s.g < 4294967296
  h : s.h < 4294967296
/-- One round. -/
def St.step (s : St) (k x : Nat) : St :=
  { a := (s.h + big1 s.e + ch s.e s.f s.g + k + x + (big0 s.a + maj s.a s.b s.c)) % 4294967296
    b := s.a, c := s.b, d := s.c
    e := (s.d + (s.h + big1 s.e + ch s.e s.f s.g + k + x)) % 4294967296
    f := s.e, g := s.f, h := s.g }
theorem St.ok.step {s : St} (h : s.ok) (k x : Nat) : (s.step k x).ok :=
  ⟨Nat.mod_lt _ (by omega), h.a, h.b, h.c, Nat.mod_lt _ (by omega), h.e, h.f, h.g⟩
def u32v (n : Nat) : Value := .int .u32 (n : Int)
def St.vals (s : St) : Array Value := #[u32v s.a, u32v s.b, u32v s.c, u32v s.d, u32v s.e, u32v s.f, u32v s.g, u32v s.h]
/-- Words as cells. -/
def wv (ws : List Nat) : Array Value := (ws.map u32v).toArray
theorem wv_size (ws : List Nat) : (wv ws).size = ws.length := by simp [wv]
theorem wv_at {ws : List Nat} {j x : Nat} (h : ws[j]? = some x) : (wv ws)[j]? = some (u32v x) := by simp [wv, h]
theorem wv_set (ws : List Nat) (j x : Nat) : (wv ws).setIfInBounds j (u32v x) = wv (ws.set j x) := by
  simp [wv, List.map_set]
theorem wv_one (ws : List Nat) : (wv ws).all (·.oneCell') = true := by
  simp only [wv, Array.all_eq_true_iff_forall_mem, List.mem_toArray, List.mem_map]
  rintro x ⟨n, _, rfl⟩
  rfl
end Go.Proofs.YtpoppfmlphkakaaDoor
