/-
  BYTES2: contracts of digest.PutUint and digest.TakeUint.
-/
import Derived.Test.YtpoppfmlphkakaaDoorBytes
namespace Go.Proofs.YtpoppfmlphkakaaDoor
set_option linter.unusedVariables false
set_option linter.unusedSimpArgs false
set_option maxRecDepth 100000
open Go.RowKit

theorem putUint_arg (A : Option Addr) (m c : Nat) (n : Nat) (s : Int) (w : World) (h : s < 1 ∨ 8 < s ∨ n / 256 ^ s.toNat ≠ 0) :
    Calls Tryd.prog 14 #[.slice A m c, .int .u64 (n : Int), .int .i64 s] w fun e w' => e = .returned (.tuple #[.slice none 0 0, .int .i64 2]) ∧ w = w' := by
  by_cases h1 : s < 1
  · go_enter Tryd.func14, Tryd.ntmps14
    go_wp2
    go_ret2
    exact ⟨rfl, rfl⟩
  · by_cases h2 : 8 < s
    · go_enter Tryd.func14, Tryd.ntmps14
      go_wp2
      go_ret2
      exact ⟨rfl, rfl⟩
    · obtain ⟨s, rfl⟩ := Int.eq_ofNat_of_zero_le (show 0 ≤ s by omega)
      have h3 : n / 256 ^ s ≠ 0 := by
        rcases h with h | h | h
        · omega
        · omega
        · exact h
      have h4 := shr_ne h3
      clear h h3
      go_enter Tryd.func14, Tryd.ntmps14
      go_wp2
      go_ret2
      exact ⟨rfl, rfl⟩
theorem putUint_many (A : Option Addr) (m c : Nat) (n : Nat) (s : Nat) (w : World) (h1 : 1 ≤ s) (h2 : s ≤ 8) (h3 : n / 256 ^ s = 0) (h4 : (8192 : Int) - s < m) :
    Calls Tryd.prog 14 #[.slice A m c, .int .u64 (n : Int), .int .i64 (s : Int)] w fun e w' => e = .returned (.tuple #[.slice none 0 0, .int .i64 4]) ∧ w = w' := by
  have h5 := shr_eq h3
  clear h3
  go_enter Tryd.func14, Tryd.ntmps14
  go_wp2
  go_ret2
  exact ⟨rfl, rfl⟩
set_option maxHeartbeats 800000 in
theorem putUint_ok (A : Option Addr) (m c : Nat) (n : Nat) (s : Nat) (l : List UInt8) (w : World) (hr : Reads w w.heap.size 1 A m (bv l)) (hn : n < 18446744073709551616) (h1 : 1 ≤ s) (h2 : s ≤ 8) (h3 : n / 256 ^ s = 0) (h4 : ¬ (8192 : Int) - s < m) :
    Calls Tryd.prog 14 #[.slice A m c, .int .u64 (n : Int), .int .i64 (s : Int)] w fun e w' =>
      ∃ v', e = .returned (.tuple #[v', .int .i64 0]) ∧ w'.ownsRow w.heap.size 5 1 v' (l ++ be n s).length (bv (l ++ be n s)) ∧ Below w.heap.size w w' := by
  have h5 := shr_eq h3
  clear h3
  have hlen : l.length = m := by have := hr.1; simpa using this
  have H1 := Lib.hid hlen; clear hlen
  have hj := fun cc => join_one (w := w) (P' := ⟨A, m, cc, l⟩) hr (by show l.length ≤ _; rw [H1.out]; omega)
  have H2 := Lib.hid hj; clear hj
  go_enter Tryd.func14, Tryd.ntmps14
  go_wp2_with fail
  refine (H2.out _).mono ?_
  rintro e w1 ⟨v1, rfl, hown1, hb1⟩
  go_wp2_with fail
  refine (appendUint_any w.heap.size v1 n s l w1 hb1.size hn h2 (by rw [H1.out]; omega) hown1).mono ?_
  rintro e w2 ⟨v2, rfl, hown2, hb2⟩
  go_wp2
  go_ret2
  exact ⟨v2, rfl, hown2, hb1.trans hb2⟩
theorem putUint_any (A : Option Addr) (m c : Nat) (n : Nat) (s : Int) (l : List UInt8) (w : World) (hr : Reads w w.heap.size 1 A m (bv l)) (hn : n < 18446744073709551616) :
    Calls Tryd.prog 14 #[.slice A m c, .int .u64 (n : Int), .int .i64 s] w fun e w' =>
      ∃ v', e = .returned (.tuple #[v', .int .i64 (putUintS l n s).2]) ∧ w'.ownsRow w.heap.size 5 1 v' (putUintS l n s).1.length (bv (putUintS l n s).1) ∧ Below w.heap.size w w' := by
  have hlen : l.length = m := by have := hr.1; simpa using this
  unfold putUintS
  by_cases h1 : s < 1 ∨ 8 < s ∨ n / 256 ^ s.toNat ≠ 0
  · rw [if_pos h1]
    refine (putUint_arg A m c n s w h1).mono ?_
    rintro e w' ⟨rfl, rfl⟩
    exact ⟨_, rfl, World.ownsRow_nil _ _ _ _, Below.refl _ _⟩
  · rw [if_neg h1]
    have h3 : n / 256 ^ s.toNat = 0 := by
      rcases Nat.eq_zero_or_pos (n / 256 ^ s.toNat) with h | h
      · exact h
      · exact absurd (.inr (.inr (by omega))) h1
    obtain ⟨s, rfl⟩ := Int.eq_ofNat_of_zero_le (show 0 ≤ s by omega)
    by_cases h4 : (8192 : Int) - s < (l.length : Int)
    · rw [if_pos h4]
      refine (putUint_many A m c n s w (by omega) (by omega) h3 (by rw [← hlen]; exact h4)).mono ?_
      rintro e w' ⟨rfl, rfl⟩
      exact ⟨_, rfl, World.ownsRow_nil _ _ _ _, Below.refl _ _⟩
    · rw [if_neg h4]
      exact putUint_ok A m c n s l w hr hn (by omega) (by omega) h3 (by rw [← hlen]; exact h4)

theorem takeUint_arg (A : Option Addr) (n c : Nat) (k s : Int) (w : World) (h : s < 1 ∨ 8 < s) :
    Calls Tryd.prog 16 #[.slice A n c, .int .i64 k, .int .i64 s] w fun e w' =>
      e = .returned (.tuple #[.int .u64 0, .int .i64 0, .int .i64 2]) ∧ w = w' := by
  by_cases h1 : s < 1
  · go_enter Tryd.func16, Tryd.ntmps16
    go_wp2
    go_ret3
    exact ⟨rfl, rfl⟩
  · have h2 : 8 < s := by omega
    clear h
    go_enter Tryd.func16, Tryd.ntmps16
    go_wp2
    go_ret3
    exact ⟨rfl, rfl⟩
set_option maxHeartbeats 800000 in
theorem takeUint_ok (A : Option Addr) (n c : Nat) (k s : Int) (l : List UInt8) (w : World) (hr : Reads w w.heap.size 1 A n (bv l)) (hnc : n ≤ c) (hc : c ≤ 9223372036854775807) (hl : n ≤ 140737488351232) (h1 : 1 ≤ s) (h2 : s ≤ 8) :
    Calls Tryd.prog 16 #[.slice A n c, .int .i64 k, .int .i64 s] w fun e w' =>
      e = .returned (.tuple #[.int .u64 (val (takeBytesS l k s).1 : Int), .int .i64 (takeBytesS l k s).2.1, .int .i64 (takeBytesS l k s).2.2]) ∧ Below w.heap.size w w' := by
  have ht := takeBytes_any A n c k s l w hr hnc hc hl
  have hle := takeBytesS_len l k s (by omega)
  have herr := takeBytesS_err l k s
  generalize takeBytesS l k s = r at ht hle herr
  obtain ⟨out, nx, er⟩ := r
  simp only at ht hle herr ⊢
  have H0 := Lib.hid ht; clear ht
  by_cases he : er = 0
  · subst he
    clear herr
    go_enter Tryd.func16, Tryd.ntmps16
    go_wp2_with fail
    refine H0.out.mono ?_
    rintro e w1 ⟨v1, rfl, hown1, hb1⟩
    obtain ⟨A1, c1, rfl, hc1, _, _⟩ := own_form hown1
    have hr1 := Reads.of_own hown1
    have H1 := Lib.hid hown1; clear hown1
    go_wp2_with fail
    go_loop [6, 31] (fun u i => ∃ k : Nat, k ≤ out.length ∧ i = .int .i64 (k : Int) ∧ u = .int .u64 (val (out.take k) : Int)) (fun _ i => out.length - (intOf i).toNat)
    case atStart => exact ⟨0, Nat.zero_le _, rfl, rfl⟩
    case round =>
      obtain ⟨k, hk, rfl, rfl⟩ := hrel
      by_cases hlt : k < out.length
      · obtain ⟨ad, u, rfl, _, hx0, hcell⟩ := hr1.at_ hlt
        obtain ⟨x, hx, rfl⟩ := bv_at hx0
        clear hx0
        unfold u8v at hcell
        have hs := take_snoc hx
        have hv := val_snoc (out.take k) x
        rw [← hs] at hv
        have H3 := Lib.hid hv; clear hv hs
        have hb7 := val_lt7 (l := out.take k) (by simp; omega)
        have hxl := x.toNat_lt
        have hor := or_byte (val (out.take k)) x hb7
        have H4 := Lib.hid hor; clear hor
        go_wp2
        go_round
        case rel => exact ⟨k + 1, by omega, by go_num, by rw [H4.out, H3.out]⟩
        case measure => simp [intOf]; omega
      · obtain rfl : k = out.length := by omega
        go_wp2
        go_ret3
        exact ⟨rfl, hb1⟩
  · obtain ⟨rfl, rfl⟩ := herr he
    have he2 : (er != 0) = true := by rw [bne_iff_ne]; exact he
    clear he herr
    go_enter Tryd.func16, Tryd.ntmps16
    go_wp2_with fail
    refine H0.out.mono ?_
    rintro e w1 ⟨v1, rfl, hown1, hb1⟩
    clear hown1
    go_wp2
    go_ret3
    exact ⟨rfl, hb1⟩
theorem takeUint_any (A : Option Addr) (n c : Nat) (k s : Int) (l : List UInt8) (w : World) (hr : Reads w w.heap.size 1 A n (bv l)) (hnc : n ≤ c) (hc : c ≤ 9223372036854775807) (hl : n ≤ 140737488351232) :
    Calls Tryd.prog 16 #[.slice A n c, .int .i64 k, .int .i64 s] w fun e w' =>
      e = .returned (.tuple #[.int .u64 ((takeUintS l k s).1 : Int), .int .i64 (takeUintS l k s).2.1, .int .i64 (takeUintS l k s).2.2]) ∧ Below w.heap.size w w' := by
  unfold takeUintS
  by_cases h : s < 1 ∨ 8 < s
  · rw [if_pos h]
    refine (takeUint_arg A n c k s w h).mono ?_
    rintro e w' ⟨rfl, rfl⟩
    exact ⟨rfl, Below.refl _ _⟩
  · rw [if_neg h]
    exact takeUint_ok A n c k s l w hr hnc hc hl (by omega) (by omega)
end Go.Proofs.YtpoppfmlphkakaaDoor
