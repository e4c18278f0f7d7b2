/-
  REFA: contracts of the specification's Number and Value.
-/
import Derived.Test.YtinoekcancgamaaBytes
namespace Go.Proofs.Ytinoekcancgamaa
set_option linter.unusedVariables false
set_option linter.unusedSimpArgs false
open Go.RowKit

theorem quo256 (n k : Nat) : ((n / 256 ^ k : Nat) : Int) / 256 = ((n / 256 ^ (k + 1) : Nat) : Int) := by
  rw [pow_step]; simp
theorem rem256 (m : Nat) : Value.int .u8 ((m : Int) % 256 % 256) = u8v (UInt8.ofNat m) := by
  rw [← u8v_ofNat]; congr 1; omega
theorem rem256' (m : Nat) : Value.int .u8 ((m : Int) % 256) = u8v (UInt8.ofNat m) := u8v_ofNat m

set_option maxHeartbeats 800000 in
theorem refNumber_any (n s : Nat) (w : World) (hn : n < 18446744073709551616) (hs : s ≤ 8) :
    Calls Try.prog 18 #[.int .u64 (n : Int), .int .i64 (s : Int)] w fun e w' =>
      ∃ v', e = .returned v' ∧ w'.ownsRow w.heap.size 5 1 v' (be n s).length (bv (be n s)) ∧ Below w.heap.size w w' := by
  obtain ⟨i0, hi, hz0, hz1, hz2⟩ := info_parts u8_info
  go_enter Try.func18, Try.ntmps18
  go_wp2
  go_loopw [0, 5, 6] (fun m u i wr => ∃ k : Nat, k ≤ s ∧ i = .int .i64 (k : Int) ∧ m = .int .u64 ((n / 256 ^ k : Nat) : Int) ∧ wr.ownsRow w.heap.size 5 1 u (be n k).length (bv (be n k)) ∧ Below w.heap.size w wr)
    (fun _ _ i _ => s - (intOf i).toNat)
  case atStart => exact ⟨0, Nat.zero_le _, rfl, by simp, World.ownsRow_nil _ _ _ _, Below.refl _ _⟩
  case round =>
    obtain ⟨k, hk, rfl, rfl, hownr, hnx⟩ := hrel
    have hsz := hnx.size
    by_cases hlt : k < s
    · have hq := quo256 n k
      have hc := be_cons n k
      have hb := be_length n k
      have hmb : n / 256 ^ k < 18446744073709551616 := Nat.lt_of_le_of_lt (Nat.div_le_self _ _) hn
      obtain ⟨A1, c1, rfl, _, _, _⟩ := own_form hownr
      have hr1 := Reads.of_own hownr
      have H1 := Lib.hid hq; clear hq
      have H2 := Lib.hid hc; clear hc
      have H3 := Lib.hid hb; clear hb
      generalize hm : n / 256 ^ k = m at *
      have H4 := Lib.hid hm; clear hm
      have hb1 := rem256' m
      have H5 := Lib.hid hb1; clear hb1
      go_wp2_with (at_builtin; refine wpList_append_any _ rfl _ _ 22 rfl w.heap.size 5 i0 (.int .u8 0) 1 1 Try.underlying22 hi hz0 hz1 hz2 rfl (by decide) _ _ _ rfl (own_new1 wr _ hsz H5.out) wr.heap.size _ _ _ _ rfl (hr1.alloc (Nat.le_refl _) _) (bv_oneCell _) (by have := H3.out; unfold maxLen; omega) (by have := H3.out; omega) (by simp; omega) ?_; intro v1 w1 hown1 hg1 _)
      have R : w1.ownsRow w.heap.size 5 1 v1 (be n (k + 1)).length (bv (be n (k + 1))) := by
        rw [H2.out, List.length_cons, Nat.add_comm]
        exact hown1
      have hnx1 : Below w.heap.size w w1 := (hnx.alloc (by omega) _).grown hg1 (by simp; omega) (fun g hg => ((own_new1 (B := w.heap.size) wr 5 hsz H5.out).lt g hg).1)
      go_roundw
      case rel => exact ⟨k + 1, by omega, by go_num, by rw [H1.out], R, hnx1⟩
      case measure => simp [intOf]; omega
    · obtain rfl : k = s := by omega
      go_wp2
      go_ret
      exact ⟨_, rfl, hownr, hnx⟩

set_option maxHeartbeats 800000 in
theorem refValue_any (A : Option Addr) (n c : Nat) (l : List UInt8) (w : World) (hr : Reads w w.heap.size 1 A n (bv l)) (hn : n ≤ 8) :
    Calls Try.prog 19 #[.slice A n c] w fun e w' => e = .returned (.int .u64 (val l : Int)) ∧ w = w' := by
  have hlen : l.length = n := by have := hr.1; simpa using this
  subst hlen
  go_enter Try.func19, Try.ntmps19
  go_wp2
  go_loop [3, 4] (fun u i => ∃ k : Nat, k ≤ l.length ∧ i = .int .i64 (k : Int) ∧ u = .int .u64 (val (l.take k) : Int)) (fun _ i => l.length - (intOf i).toNat)
  case atStart => exact ⟨0, Nat.zero_le _, rfl, rfl⟩
  case round =>
    obtain ⟨k, hk, rfl, rfl⟩ := hrel
    by_cases hlt : k < l.length
    · obtain ⟨ad, u, rfl, _, hx0, hcell⟩ := hr.at_ hlt
      obtain ⟨x, hx, rfl⟩ := bv_at hx0
      clear hx0
      unfold u8v at hcell
      have hs := take_snoc hx
      have hv := val_snoc (l.take k) x
      rw [← hs] at hv
      have H3 := Lib.hid hv; clear hv hs
      have hb7 := val_lt7 (l := l.take k) (by simp; omega)
      have hxl := x.toNat_lt
      go_wp2
      go_round
      case rel => exact ⟨k + 1, by omega, by go_num, by rw [H3.out]; simp⟩
      case measure => simp [intOf]; omega
    · obtain rfl : k = l.length := by omega
      go_wp2
      go_ret
      exact ⟨rfl, rfl⟩
end Go.Proofs.Ytinoekcancgamaa
