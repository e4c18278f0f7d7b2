/-
  TEXTS: contracts of digest's Hex, ParseHex, digitValue.
-/
import Derived.Test.YtpoppfmlphkakaaDoorBytes
import Derived.BigQuiet
import Derived.StillTailTactics
import Derived.Deep.RegionLaw
namespace Go.Proofs.YtpoppfmlphkakaaDoor
set_option linter.unusedVariables false
set_option linter.unusedSimpArgs false
set_option maxRecDepth 100000
open Go.RowKit

/-- The digit of a value below 16. -/
def dig (n : Nat) : UInt8 := if n < 10 then UInt8.ofNat (48 + n) else UInt8.ofNat (87 + n)
def hexOf (l : List UInt8) : List UInt8 := l.flatMap fun b => [dig (b.toNat / 16), dig (b.toNat % 16)]
theorem hexOf_snoc (l : List UInt8) (b : UInt8) : hexOf (l ++ [b]) = hexOf l ++ [dig (b.toNat / 16), dig (b.toNat % 16)] := by simp [hexOf]
theorem hexOf_length (l : List UInt8) : (hexOf l).length = 2 * l.length := by
  induction l with
  | nil => rfl
  | cons b l ih =>
    show (([dig (b.toNat / 16), dig (b.toNat % 16)] ++ hexOf l)).length = _
    rw [List.length_append, ih]; simp; omega

def digs : ByteArray := { data := #[48, 49, 50, 51, 52, 53, 54, 55, 56, 57, 97, 98, 99, 100, 101, 102] }
theorem digs_at : ∀ k : Fin 16, digs.data[k.val]'k.isLt = dig k.val := by decide
theorem index_digs (K : Int) (k : Nat) (hK : K = (k : Int)) (hk : k < 16) (w : World) :
    (Instr.index 9 (.string { data := #[48, 49, 50, 51, 52, 53, 54, 55, 56, 57, 97, 98, 99, 100, 101, 102] }) (.int .u8 K)).run Tryd.prog w = .ok (.int .u8 ((dig k).toNat : Int)) w := by
  subst hK
  rw [run_index_string w 9 _ .u8 (k : Int) Tryd.underlying9]
  have h1 := digs_at ⟨k, hk⟩
  have hsz : digs.size = 16 := rfl
  rw [dif_pos ⟨by omega, by show (k : Int) < (digs.size : Int); rw [hsz]; omega⟩]
  rw [← h1]
  rfl
theorem hex_many (A : Option Addr) (n c : Nat) (w : World) (h : (8192 : Int) < n) :
    Calls Tryd.prog 40 #[.slice A n c] w fun e w' => e = .returned (.tuple #[.string ⟨#[]⟩, .int .i64 4]) ∧ w = w' := by
  go_enter Tryd.func40, Tryd.ntmps40
  go_wp2
  go_ret2
  exact ⟨rfl, rfl⟩

set_option maxHeartbeats 1600000 in
theorem hex_ok (A : Option Addr) (n c : Nat) (l : List UInt8) (w : World) (hr : Reads w w.heap.size 1 A n (bv l)) (h : n ≤ 8192) :
    Calls Tryd.prog 40 #[.slice A n c] w fun e w' => e = .returned (.tuple #[.string ⟨(hexOf l).toArray⟩, .int .i64 0]) ∧ Below w.heap.size w w' := by
  obtain ⟨i0, hi, hz0, hz1, hz2⟩ := info_parts u8_info
  have hlen : l.length = n := by have := hr.1; simpa using this
  have H1 := Lib.hid hlen; clear hlen
  have hb : decide ((8192 : Int) < (n : Int)) = false := by simp; omega
  go_enter Tryd.func40, Tryd.ntmps40
  go_wp2_with (at_make; refine wpList_make_own _ rfl _ _ 22 rfl w.heap.size 5 i0 (.int .u8 0) 1 Tryd.underlying22 hi hz0 hz1 _ _ _ (2 * n) rfl rfl (by omega) (by rw [hz2]; omega) (by unfold maxLen; omega) (Nat.le_refl _) ?_; intro w1 hown1 hg1)
  have hb1 : Below w.heap.size w w1 := (Below.refl _ _).grown hg1 (Nat.le_refl _) (fun _ h => by cases h)
  go_loopw [4, 16] (fun u i wr => ∃ k : Nat, k ≤ n ∧ i = .int .i64 (k : Int) ∧ wr.ownsRow w.heap.size 5 1 u (hexOf (l.take k)).length (bv (hexOf (l.take k))) ∧ Below w.heap.size w wr)
    (fun _ i _ => n - (intOf i).toNat)
  case atStart => exact ⟨0, Nat.zero_le _, rfl, hown1, hb1⟩
  case round =>
    obtain ⟨k, hk, rfl, hownr, hnx⟩ := hrel
    have hsz := hnx.size
    clear hown1 hg1
    by_cases hlt : k < n
    · obtain ⟨ad, u, rfl, _, hx0, hcell⟩ := (hr.below hnx).at_ hlt
      obtain ⟨x, hx, rfl⟩ := bv_at hx0
      clear hx0
      unfold u8v at hcell
      have hs := take_snoc hx
      have hv := hexOf_snoc (l.take k) x
      rw [← hs] at hv
      have hlen : (hexOf (l.take k)).length = 2 * k := by rw [hexOf_length, List.length_take]; have := H1.out; omega
      have H3 := Lib.hid hv; clear hv hs
      have H4 := Lib.hid hlen; clear hlen
      have hxl := x.toNat_lt
      have q1 := fun W => index_digs ((x.toNat : Int) / 16) (x.toNat / 16) (by simp) (by omega) W
      have q2 := fun W => index_digs ((x.toNat : Int) % 16) (x.toNat % 16) (by simp) (by omega) W
      have a15 : bits .and .u8 (x.toNat : Int) 15 = (x.toNat : Int) % 16 := u8_and15 _ (by omega) (by omega)
      go_wp2
      go_region_law ((refine step_append_any _ rfl (.tmp 20) (.tmp 27) 22 rfl w.heap.size 5 i0 (.int .u8 0) 1 1 Tryd.underlying22 hi hz0 hz1 hz2 rfl (by decide) _ _ _ (by simp [Act.eval, Act.put]) ((show wr.drew.ownsRow _ _ _ _ _ _ from hownr).alloc _) (wr.drew.heap.size + 1) _ 2 2 (bv [dig (x.toNat / 16), dig (x.toNat % 16)]) (by simp [Act.eval, Act.put]) (reads_new2 _ _ rfl rfl) (bv_oneCell _) (by rw [H4.out]; unfold maxLen; omega) (by rw [H4.out]; omega) (by simp; omega) ?_; intro v3 w3 hown3 hg3 _))
      all_goals
        have R : w3.ownsRow w.heap.size 5 1 v3 (hexOf (l.take (k + 1))).length (bv (hexOf (l.take (k + 1)))) := by
          rw [H3.out, bv_append, List.length_append]
          exact hown3
        have hnx3 : Below w.heap.size w w3 := (hnx.drew.alloc (by exact hsz) _).grown hg3 (by simp; omega) (fun g hg => (hownr.lt g hg).1)
        clear hown3 hg3
        go_wp2
        go_roundw
        case rel => exact ⟨k + 1, by omega, by go_num, R, hnx3⟩
        case measure => simp [intOf]; omega
    · obtain rfl : k = n := by omega
      rw [List.take_of_length_le (Nat.le_of_eq H1.out)] at hownr
      obtain ⟨A1, c1, rfl, _, _, _⟩ := own_form hownr
      have hr1 := Reads.of_own hownr
      have q1 := run_str (P := Tryd.prog) 22 5 9 Tryd.underlying22 Tryd.underlying5 Tryd.underlying9 (c := c1) hr1
      clear hownr hr1
      go_wp2
      go_ret2
      exact ⟨rfl, hnx⟩

/-- What Hex comes to. -/
def hexS (l : List UInt8) : List UInt8 × Int := if 8192 < l.length then ([], 4) else (hexOf l, 0)
theorem hex_any (A : Option Addr) (n c : Nat) (l : List UInt8) (w : World) (hr : Reads w w.heap.size 1 A n (bv l)) :
    Calls Tryd.prog 40 #[.slice A n c] w fun e w' => e = .returned (.tuple #[.string ⟨(hexS l).1.toArray⟩, .int .i64 (hexS l).2]) ∧ Below w.heap.size w w' := by
  have hlen : l.length = n := by have := hr.1; simpa using this
  unfold hexS
  by_cases h : 8192 < l.length
  · rw [if_pos h]
    refine (hex_many A n c w (by omega)).mono ?_
    rintro e w' ⟨rfl, rfl⟩
    exact ⟨rfl, Below.refl _ _⟩
  · rw [if_neg h]
    exact hex_ok A n c l w hr (by omega)

/-! ### ParseHex -/
def dvB (c : UInt8) : Bool := (decide (48 ≤ c.toNat) && decide (c.toNat ≤ 57)) || (decide (97 ≤ c.toNat) && decide (c.toNat ≤ 102))
def dvN (c : UInt8) : Nat := if 48 ≤ c.toNat ∧ c.toNat ≤ 57 then c.toNat - 48 else if 97 ≤ c.toNat ∧ c.toNat ≤ 102 then c.toNat - 87 else 0
theorem dvN_lt (c : UInt8) : dvN c < 16 := by
  unfold dvN
  split
  · omega
  · split <;> omega
theorem digitValue_any (c : UInt8) (w : World) :
    Calls Tryd.prog 46 #[.int .u8 (c.toNat : Int)] w fun e w' => e = .returned (.tuple #[.int .u8 (dvN c : Int), .bool (dvB c)]) ∧ w = w' := by
  have hc := c.toNat_lt
  by_cases h1 : 48 ≤ c.toNat ∧ c.toNat ≤ 57
  · have e1 : (dvN c : Int) = (c.toNat : Int) - 48 := by unfold dvN; rw [if_pos h1]; omega
    have e2 : dvB c = true := by unfold dvB; simp; omega
    obtain ⟨ha, hb⟩ := h1
    rw [e1, e2]
    clear e1 e2
    go_enter Tryd.func46, Tryd.ntmps46
    go_wp2
    go_ret2
    exact ⟨rfl, rfl⟩
  · by_cases h2 : 97 ≤ c.toNat ∧ c.toNat ≤ 102
    · have e1 : (dvN c : Int) = (c.toNat : Int) - 97 + 10 := by unfold dvN; rw [if_neg h1, if_pos h2]; omega
      have e2 : dvB c = true := by unfold dvB; simp; omega
      obtain ⟨ha, hb⟩ := h2
      have hn : 57 < c.toNat := by omega
      rw [e1, e2]
      clear e1 e2 h1
      go_enter Tryd.func46, Tryd.ntmps46
      go_wp2
      go_ret2
      exact ⟨rfl, rfl⟩
    · have e1 : (dvN c : Int) = 0 := by unfold dvN; rw [if_neg h1, if_neg h2]; rfl
      have e2 : dvB c = false := by unfold dvB; simp; omega
      rw [e1, e2]
      clear e1 e2
      have h3 : c.toNat < 48 ∨ (57 < c.toNat ∧ c.toNat < 97) ∨ 102 < c.toNat := by omega
      clear h1 h2
      rcases h3 with h | ⟨h, h'⟩ | h
      all_goals
        go_enter Tryd.func46, Tryd.ntmps46
        go_wp2
        go_ret2
        exact ⟨rfl, rfl⟩

/-- A string's byte, by its number. -/
theorem index_str (s : ByteArray) (x : UInt8) (K : Int) (k : Nat) (hK : K = (k : Int)) (hx : s.data.toList[k]? = some x) (W : World) :
    (Instr.index 9 (.string s) (.int .i64 K)).run Tryd.prog W = .ok (.int .u8 (x.toNat : Int)) W := by
  subst hK
  have hl : k < s.data.toList.length := (List.getElem?_eq_some_iff.1 hx).1
  have hsz : k < s.size := by simpa using hl
  rw [run_index_string W 9 s .i64 (k : Int) Tryd.underlying9, dif_pos ⟨by omega, by omega⟩]
  have h2 : s.data.toList[k]'hl = x := by rw [List.getElem?_eq_getElem hl] at hx; exact Option.some.inj hx
  subst h2
  rfl

/-- The bytes of the first k pairs of digits, if all of them are digits. -/
def unhexN (s : List UInt8) : Nat → Option (List UInt8)
  | 0 => some []
  | k + 1 => match unhexN s k, s[2 * k]?, s[2 * k + 1]? with
    | some l, some a, some b => if dvB a && dvB b then some (l ++ [UInt8.ofNat (16 * dvN a + dvN b)]) else none
    | _, _, _ => none
theorem unhexN_len {s : List UInt8} {k : Nat} {l : List UInt8} (h : unhexN s k = some l) : l.length = k := by
  induction k generalizing l with
  | zero => simp [unhexN] at h; simp [← h]
  | succ k ih =>
    unfold unhexN at h
    split at h
    · rename_i l' a b h1 _ _
      split at h
      · injection h with h
        subst h
        simp [ih h1]
      · cases h
    · cases h
theorem unhexN_mono {s : List UInt8} {k m : Nat} (h : unhexN s k = none) (hm : k ≤ m) : unhexN s m = none := by
  induction m with
  | zero => obtain rfl : k = 0 := by omega
            exact h
  | succ m ih =>
    by_cases e : k = m + 1
    · subst e; exact h
    · unfold unhexN
      rw [ih (by omega)]
theorem unhexN_step {s : List UInt8} {k : Nat} {l : List UInt8} {a b : UInt8} (h : unhexN s k = some l) (ha : s[2 * k]? = some a) (hb : s[2 * k + 1]? = some b) :
    unhexN s (k + 1) = if dvB a && dvB b then some (l ++ [UInt8.ofNat (16 * dvN a + dvN b)]) else none := by
  conv => lhs; unfold unhexN
  rw [h, ha, hb]
/-- What ParseHex comes to. -/
def parseS (s : List UInt8) : List UInt8 × Int :=
  if 16384 < s.length then ([], 4)
  else if s.length % 2 = 0 then (match unhexN s (s.length / 2) with
    | some l => (l, 0)
    | none => ([], 11))
  else ([], 11)
theorem nibbles_v (a b : UInt8) (h : bits .or .u8 ((dvN a : Int) * 16) (dvN b : Int) = ((16 * dvN a + dvN b : Nat) : Int)) : Value.int .u8 (bits .or .u8 ((dvN a : Int) * 16) (dvN b : Int)) = u8v (UInt8.ofNat (16 * dvN a + dvN b)) := by
  rw [h]
  have h1 := dvN_lt a
  have h2 := dvN_lt b
  unfold u8v
  congr 1
  rw [ofNat_toNat]
  omega
theorem nibbles (a b : UInt8) : bits .or .u8 ((dvN a : Int) * 16) (dvN b : Int) = ((16 * dvN a + dvN b : Nat) : Int) := by
  have h1 := dvN_lt a
  have h2 := dvN_lt b
  have h := u8_or_nat (dvN a * 16) (dvN b) (by omega) (by omega)
  rw [nat_join 4 (dvN a * 16) (dvN b) (by omega) (by omega)] at h
  rw [show ((dvN a : Int) * 16) = ((dvN a * 16 : Nat) : Int) from by simp, h, Nat.mul_comm]

end Go.Proofs.YtpoppfmlphkakaaDoor
