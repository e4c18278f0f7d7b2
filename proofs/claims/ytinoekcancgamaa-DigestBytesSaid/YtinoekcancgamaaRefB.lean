/-
  REFB: contracts of the specification's fits, PutUint, TakeBytes, TakeUint.
-/
import Derived.Test.YtinoekcancgamaaRefA
import Derived.BigQuiet
namespace Go.Proofs.Ytinoekcancgamaa
set_option linter.unusedVariables false
set_option linter.unusedSimpArgs false
open Go.RowKit

def fitsB (n s : Nat) : Bool := decide (n / 256 ^ s = 0)
set_option maxHeartbeats 800000 in
theorem refFits_any (n s : Nat) (w : World) (hn : n < 18446744073709551616) (hs : s ≤ 8) :
    Calls Try.prog 17 #[.int .u64 (n : Int), .int .i64 (s : Int)] w fun e w' => e = .returned (.bool (fitsB n s)) ∧ w = w' := by
  go_enter Try.func17, Try.ntmps17
  go_wp2
  go_loop [0, 5] (fun m i => ∃ k : Nat, k ≤ s ∧ i = .int .i64 (k : Int) ∧ m = .int .u64 ((n / 256 ^ k : Nat) : Int)) (fun _ i => s - (intOf i).toNat)
  case atStart => exact ⟨0, Nat.zero_le _, rfl, by simp⟩
  case round =>
    obtain ⟨k, hk, rfl, rfl⟩ := hrel
    by_cases hlt : k < s
    · have hq := quo256 n k
      have hmb : n / 256 ^ k < 18446744073709551616 := Nat.lt_of_le_of_lt (Nat.div_le_self _ _) hn
      have H1 := Lib.hid hq; clear hq
      generalize hm : n / 256 ^ k = m at *
      have H4 := Lib.hid hm; clear hm
      go_wp2
      go_round
      case rel => exact ⟨k + 1, by omega, by go_num, by rw [H1.out]⟩
      case measure => simp [intOf]; omega
    · obtain rfl : k = s := by omega
      have hf : (((n / 256 ^ k : Nat) : Int) == 0) = fitsB n k := by
        unfold fitsB
        rw [Bool.eq_iff_iff]
        simp only [beq_iff_eq, decide_eq_true_eq]
        omega
      have HF := Lib.hid hf; clear hf
      generalize hm : n / 256 ^ k = m at *
      have H4 := Lib.hid hm; clear hm
      go_wp2
      go_ret
      exact ⟨by rw [← HF.out]; rfl, rfl⟩

theorem refTakeBytes_arg (A : Option Addr) (n c : Nat) (k m : Int) (w : World) (h : k < 0 ∨ (n : Int) < k ∨ m < 0) :
    Calls Try.prog 10 #[.slice A n c, .int .i64 k, .int .i64 m] w fun e w' =>
      e = .returned (.tuple #[.slice none 0 0, .int .i64 0, .int .i64 2]) ∧ w = w' := by
  by_cases h1 : k < 0
  · go_enter Try.func10, Try.ntmps10
    go_wp2
    go_ret3
    exact ⟨rfl, rfl⟩
  · by_cases h2 : (n : Int) < k
    · go_enter Try.func10, Try.ntmps10
      go_wp2
      go_ret3
      exact ⟨rfl, rfl⟩
    · have h3 : m < 0 := by omega
      clear h
      go_enter Try.func10, Try.ntmps10
      go_wp2
      go_ret3
      exact ⟨rfl, rfl⟩
theorem refTakeBytes_short (A : Option Addr) (n c : Nat) (k m : Int) (w : World) (h1 : 0 ≤ k) (h2 : k ≤ n) (h3 : 0 ≤ m) (h4 : (n : Int) - k < m) (hn : n ≤ 9223372036854775807) :
    Calls Try.prog 10 #[.slice A n c, .int .i64 k, .int .i64 m] w fun e w' =>
      e = .returned (.tuple #[.slice none 0 0, .int .i64 0, .int .i64 10]) ∧ w = w' := by
  go_enter Try.func10, Try.ntmps10
  go_wp2
  go_ret3
  exact ⟨rfl, rfl⟩
set_option maxHeartbeats 800000 in
theorem refTakeBytes_ok (A : Option Addr) (n c : Nat) (k m : Nat) (l : List UInt8) (w : World) (hr : Reads w w.heap.size 1 A n (bv l)) (hnc : n ≤ c) (hc : c ≤ 9223372036854775807) (hl : n ≤ 140737488351232) (hk : k + m ≤ n) :
    Calls Try.prog 10 #[.slice A n c, .int .i64 (k : Int), .int .i64 (m : Int)] w fun e w' =>
      ∃ v', e = .returned (.tuple #[v', .int .i64 ((k : Int) + (m : Int)), .int .i64 0]) ∧ w'.ownsRow w.heap.size 5 1 v' ((l.drop k).take m).length (bv ((l.drop k).take m)) ∧ Below w.heap.size w w' := by
  obtain ⟨i0, hi, hz0, hz1, hz2⟩ := info_parts u8_info
  obtain ⟨A', hA'⟩ : ∃ A', A' = if c = k then A else A.map (fun x => x.add k) := ⟨_, rfl⟩
  have hr' := cut_take (c := c) (k := k) (m := m) hr hnc hk
  rw [← hA'] at hr'
  have hlen : ((l.drop k).take m).length = m := by have := hr'.1; simpa using this
  have H1 := Lib.hid hlen; clear hlen
  have hown0 := own_new0 (B := w.heap.size) w 5 (Nat.le_refl _)
  have hr2 : Reads w w.heap.size 1 A' (k + m - k) (bv ((l.drop k).take m)) := by rw [Nat.add_sub_cancel_left]; exact hr'
  have hfin : ∀ v1 w1, w1.ownsRow w.heap.size 5 1 v1 (0 + (k + m - k)) ([] ++ bv ((l.drop k).take m)) → (w.alloc (.cells #[] 5)).grownBy w1 (Value.slice (some ⟨w.heap.size, 0, none⟩) 0 0).ownBlock →
      w1.ownsRow w.heap.size 5 1 v1 ((l.drop k).take m).length (bv ((l.drop k).take m)) ∧ Below w.heap.size w w1 := fun v1 w1 h1 hg =>
    ⟨by rw [H1.out]; simpa using h1, (((Below.refl _ _).alloc (Nat.le_refl _) _).grown hg (by simp) (fun g h => (hown0.lt g h).1))⟩
  by_cases hck : c = k
  · rw [if_pos hck] at hA'
    subst hA' hck
    go_enter Try.func10, Try.ntmps10
    go_wp2_with (at_builtin; refine wpList_append_any _ rfl _ _ 22 rfl w.heap.size 5 i0 (.int .u8 0) 1 1 Try.underlying22 hi hz0 hz1 hz2 rfl (by decide) _ _ _ rfl hown0 w.heap.size _ _ _ _ rfl (hr2.alloc (Nat.le_refl _) _) (bv_oneCell _) (by unfold maxLen; omega) (by omega) (by simp) ?_; intro v1 w1 hown1 hg1 _)
    go_ret3
    exact ⟨v1, rfl, hfin v1 w1 hown1 hg1⟩
  · rw [if_neg hck] at hA'
    subst hA'
    go_enter Try.func10, Try.ntmps10
    go_wp2_with (at_builtin; refine wpList_append_any _ rfl _ _ 22 rfl w.heap.size 5 i0 (.int .u8 0) 1 1 Try.underlying22 hi hz0 hz1 hz2 rfl (by decide) _ _ _ rfl hown0 w.heap.size _ _ _ _ rfl (hr2.alloc (Nat.le_refl _) _) (bv_oneCell _) (by unfold maxLen; omega) (by omega) (by simp) ?_; intro v1 w1 hown1 hg1 _)
    go_ret3
    exact ⟨v1, rfl, hfin v1 w1 hown1 hg1⟩

theorem refTakeBytes_any (A : Option Addr) (n c : Nat) (k m : Int) (l : List UInt8) (w : World) (hr : Reads w w.heap.size 1 A n (bv l)) (hnc : n ≤ c) (hc : c ≤ 9223372036854775807) (hl : n ≤ 140737488351232) :
    Calls Try.prog 10 #[.slice A n c, .int .i64 k, .int .i64 m] w fun e w' =>
      ∃ v', e = .returned (.tuple #[v', .int .i64 (takeBytesS l k m).2.1, .int .i64 (takeBytesS l k m).2.2]) ∧ w'.ownsRow w.heap.size 5 1 v' (takeBytesS l k m).1.length (bv (takeBytesS l k m).1) ∧ Below w.heap.size w w' := by
  have hln : l.length = n := by have := hr.1; simpa using this
  unfold takeBytesS
  rw [hln]
  by_cases h1 : k < 0 ∨ (n : Int) < k ∨ m < 0
  · rw [if_pos h1]
    refine (refTakeBytes_arg A n c k m w h1).mono ?_
    rintro e w' ⟨rfl, rfl⟩
    exact ⟨_, rfl, World.ownsRow_nil _ _ _ _, Below.refl _ _⟩
  · rw [if_neg h1]
    by_cases h2 : (n : Int) - k < m
    · rw [if_pos h2]
      refine (refTakeBytes_short A n c k m w (by omega) (by omega) (by omega) h2 (by omega)).mono ?_
      rintro e w' ⟨rfl, rfl⟩
      exact ⟨_, rfl, World.ownsRow_nil _ _ _ _, Below.refl _ _⟩
    · rw [if_neg h2]
      obtain ⟨k, rfl⟩ := Int.eq_ofNat_of_zero_le (show 0 ≤ k by omega)
      obtain ⟨m, rfl⟩ := Int.eq_ofNat_of_zero_le (show 0 ≤ m by omega)
      exact refTakeBytes_ok A n c k m l w hr hnc hc hl (by omega)

theorem refTakeUint_arg (A : Option Addr) (n c : Nat) (k s : Int) (w : World) (h : s < 1 ∨ 8 < s) :
    Calls Try.prog 8 #[.slice A n c, .int .i64 k, .int .i64 s] w fun e w' =>
      e = .returned (.tuple #[.int .u64 0, .int .i64 0, .int .i64 2]) ∧ w = w' := by
  by_cases h1 : s < 1
  · go_enter Try.func8, Try.ntmps8
    go_wp2
    go_ret3
    exact ⟨rfl, rfl⟩
  · have h2 : 8 < s := by omega
    clear h
    go_enter Try.func8, Try.ntmps8
    go_wp2
    go_ret3
    exact ⟨rfl, rfl⟩
set_option maxHeartbeats 800000 in
theorem refTakeUint_ok (A : Option Addr) (n c : Nat) (k s : Int) (l : List UInt8) (w : World) (hr : Reads w w.heap.size 1 A n (bv l)) (hnc : n ≤ c) (hc : c ≤ 9223372036854775807) (hl : n ≤ 140737488351232) (h1 : 1 ≤ s) (h2 : s ≤ 8) :
    Calls Try.prog 8 #[.slice A n c, .int .i64 k, .int .i64 s] w fun e w' =>
      e = .returned (.tuple #[.int .u64 (val (takeBytesS l k s).1 : Int), .int .i64 (takeBytesS l k s).2.1, .int .i64 (takeBytesS l k s).2.2]) ∧ Below w.heap.size w w' := by
  have ht := refTakeBytes_any A n c k s l w hr hnc hc hl
  have hle := takeBytesS_len l k s (by omega)
  generalize takeBytesS l k s = r at ht hle
  obtain ⟨out, nx, er⟩ := r
  simp only at ht hle ⊢
  have H0 := Lib.hid ht; clear ht
  go_enter Try.func8, Try.ntmps8
  go_wp2_with fail
  refine H0.out.mono ?_
  rintro e w1 ⟨v1, rfl, hown1, hb1⟩
  obtain ⟨A1, c1, rfl, hc1, _, _⟩ := own_form hown1
  have hr1 := Reads.of_own hown1
  have hcv := refValue_any A1 out.length c1 out w1 hr1 (by omega)
  have H1 := Lib.hid hown1; clear hown1
  have H2 := Lib.hid hcv; clear hcv
  go_wp2_with fail
  refine H2.out.mono ?_
  rintro e w2 ⟨rfl, rfl⟩
  go_wp2
  go_ret3
  exact ⟨rfl, hb1⟩
theorem refTakeUint_any (A : Option Addr) (n c : Nat) (k s : Int) (l : List UInt8) (w : World) (hr : Reads w w.heap.size 1 A n (bv l)) (hnc : n ≤ c) (hc : c ≤ 9223372036854775807) (hl : n ≤ 140737488351232) :
    Calls Try.prog 8 #[.slice A n c, .int .i64 k, .int .i64 s] w fun e w' =>
      e = .returned (.tuple #[.int .u64 ((takeUintS l k s).1 : Int), .int .i64 (takeUintS l k s).2.1, .int .i64 (takeUintS l k s).2.2]) ∧ Below w.heap.size w w' := by
  unfold takeUintS
  by_cases h : s < 1 ∨ 8 < s
  · rw [if_pos h]
    refine (refTakeUint_arg A n c k s w h).mono ?_
    rintro e w' ⟨rfl, rfl⟩
    exact ⟨rfl, Below.refl _ _⟩
  · rw [if_neg h]
    exact refTakeUint_ok A n c k s l w hr hnc hc hl (by omega) (by omega)

theorem refPutUint_arg (A : Option Addr) (m c : Nat) (n : Nat) (s : Int) (w : World) (hn : n < 18446744073709551616) (h : s < 1 ∨ 8 < s ∨ n / 256 ^ s.toNat ≠ 0) :
    Calls Try.prog 6 #[.slice A m c, .int .u64 (n : Int), .int .i64 s] w fun e w' => e = .returned (.tuple #[.slice none 0 0, .int .i64 2]) ∧ w = w' := by
  by_cases h1 : s < 1
  · go_enter Try.func6, Try.ntmps6
    go_wp2
    go_ret2
    exact ⟨rfl, rfl⟩
  · by_cases h2 : 8 < s
    · go_enter Try.func6, Try.ntmps6
      go_wp2
      go_ret2
      exact ⟨rfl, rfl⟩
    · obtain ⟨s, rfl⟩ := Int.eq_ofNat_of_zero_le (show 0 ≤ s by omega)
      have h3 : n / 256 ^ s ≠ 0 := by
        rcases h with h | h | h
        · omega
        · omega
        · exact h
      have hf := refFits_any n s w hn (by omega)
      have h4 : fitsB n s = false := by unfold fitsB; exact decide_eq_false h3
      rw [h4] at hf
      clear h h3 h4
      have HF := Lib.hid hf; clear hf
      go_enter Try.func6, Try.ntmps6
      go_wp2_with (go_at_call 17; refine HF.out.mono ?_; rintro e w1 ⟨rfl, rfl⟩)
      go_ret2
      exact ⟨rfl, rfl⟩
theorem refPutUint_many (A : Option Addr) (m c : Nat) (n : Nat) (s : Nat) (w : World) (hn : n < 18446744073709551616) (h1 : 1 ≤ s) (h2 : s ≤ 8) (h3 : n / 256 ^ s = 0) (h4 : (8192 : Int) - s < m) (hm : m ≤ 140737488351232) :
    Calls Try.prog 6 #[.slice A m c, .int .u64 (n : Int), .int .i64 (s : Int)] w fun e w' => e = .returned (.tuple #[.slice none 0 0, .int .i64 4]) ∧ w = w' := by
  have hf := refFits_any n s w hn (by omega)
  rw [show fitsB n s = true from decide_eq_true h3] at hf
  clear h3
  have HF := Lib.hid hf; clear hf
  go_enter Try.func6, Try.ntmps6
  go_wp2_with (go_at_call 17; refine HF.out.mono ?_; rintro e w1 ⟨rfl, rfl⟩)
  go_ret2
  exact ⟨rfl, rfl⟩
set_option maxHeartbeats 800000 in
theorem refPutUint_ok (A : Option Addr) (m c : Nat) (n : Nat) (s : Nat) (l : List UInt8) (w : World) (hr : Reads w w.heap.size 1 A m (bv l)) (hn : n < 18446744073709551616) (h1 : 1 ≤ s) (h2 : s ≤ 8) (h3 : n / 256 ^ s = 0) (h4 : ¬ (8192 : Int) - s < m) :
    Calls Try.prog 6 #[.slice A m c, .int .u64 (n : Int), .int .i64 (s : Int)] w fun e w' =>
      ∃ v', e = .returned (.tuple #[v', .int .i64 0]) ∧ w'.ownsRow w.heap.size 5 1 v' (l ++ be n s).length (bv (l ++ be n s)) ∧ Below w.heap.size w w' := by
  obtain ⟨i0, hi, hz0, hz1, hz2⟩ := info_parts u8_info
  have hf := refFits_any n s w hn (by omega)
  rw [show fitsB n s = true from decide_eq_true h3] at hf
  clear h3
  have HF := Lib.hid hf; clear hf
  have hlen : l.length = m := by have := hr.1; simpa using this
  have H1 := Lib.hid hlen; clear hlen
  have hb := be_length n s
  have H2 := Lib.hid hb; clear hb
  have hown0 := own_new0 (B := w.heap.size) w 5 (Nat.le_refl _)
  go_enter Try.func6, Try.ntmps6
  go_wp2_with (first
    | (go_at_call 17; refine HF.out.mono ?_; rintro e w1 ⟨rfl, rfl⟩)
    | (at_builtin; refine wpList_append_any _ rfl (.tmp 26) (.tmp 27) 22 rfl w.heap.size 5 i0 (.int .u8 0) 1 1 Try.underlying22 hi hz0 hz1 hz2 rfl (by decide) _ _ _ rfl hown0 w.heap.size _ _ _ _ rfl (hr.alloc (Nat.le_refl _) _) (bv_oneCell _) (by unfold maxLen; omega) (by omega) (by simp) ?_; intro v1 w1 hown1 hg1 _))
  have hbw1 : Below w.heap.size w w1 := ((Below.refl _ _).alloc (Nat.le_refl _) _).grown hg1 (by simp) (fun g h => (hown0.lt g h).1)
  refine (refNumber_any n s w1 hn h2).mono ?_
  rintro e w2 ⟨v2, rfl, hown2, hb2⟩
  have hown1' := own_below hown1 hb2 (fun g hg => (hown1.lt g hg).2)
  obtain ⟨A2, c2, rfl, _, _, _⟩ := own_form hown2
  have hr2 := Reads.of_own hown2
  clear hown1 hown2
  have hs1 := hbw1.size
  have hs2 := hb2.size
  go_wp2_with (at_builtin; refine wpList_append_any _ rfl (.tmp 29) (.tmp 32) 22 rfl w.heap.size 5 i0 (.int .u8 0) 1 1 Try.underlying22 hi hz0 hz1 hz2 rfl (by decide) _ _ _ rfl hown1' w2.heap.size _ _ _ _ rfl hr2 (bv_oneCell _) (by have := H2.out; unfold maxLen; omega) (by have := H2.out; omega) (by omega) ?_; intro v3 w3 hown3 hg3 _)
  have hbw3 : Below w.heap.size w w3 := (hbw1.trans (hb2.mono (by omega))).grown hg3 (by omega) (fun g h => (hown1'.lt g h).1)
  go_ret2
  refine ⟨v3, rfl, ?_, hbw3⟩
  rw [bv_append, List.length_append, H1.out]
  simpa using hown3

theorem refPutUint_any (A : Option Addr) (m c : Nat) (n : Nat) (s : Int) (l : List UInt8) (w : World) (hr : Reads w w.heap.size 1 A m (bv l)) (hn : n < 18446744073709551616) (hm : m ≤ 140737488351232) :
    Calls Try.prog 6 #[.slice A m c, .int .u64 (n : Int), .int .i64 s] w fun e w' =>
      ∃ v', e = .returned (.tuple #[v', .int .i64 (putUintS l n s).2]) ∧ w'.ownsRow w.heap.size 5 1 v' (putUintS l n s).1.length (bv (putUintS l n s).1) ∧ Below w.heap.size w w' := by
  have hlen : l.length = m := by have := hr.1; simpa using this
  unfold putUintS
  by_cases h1 : s < 1 ∨ 8 < s ∨ n / 256 ^ s.toNat ≠ 0
  · rw [if_pos h1]
    refine (refPutUint_arg A m c n s w hn h1).mono ?_
    rintro e w' ⟨rfl, rfl⟩
    exact ⟨_, rfl, World.ownsRow_nil _ _ _ _, Below.refl _ _⟩
  · rw [if_neg h1]
    have h3 : n / 256 ^ s.toNat = 0 := by
      rcases Nat.eq_zero_or_pos (n / 256 ^ s.toNat) with h | h
      · exact h
      · exact absurd (.inr (.inr (by omega))) h1
    obtain ⟨s, rfl⟩ := Int.eq_ofNat_of_zero_le (show 0 ≤ s by omega)
    by_cases h4 : (8192 : Int) - s < (l.length : Int)
    · rw [if_pos h4]
      refine (refPutUint_many A m c n s w hn (by omega) (by omega) h3 (by rw [← hlen]; exact h4) hm).mono ?_
      rintro e w' ⟨rfl, rfl⟩
      exact ⟨_, rfl, World.ownsRow_nil _ _ _ _, Below.refl _ _⟩
    · rw [if_neg h4]
      exact refPutUint_ok A m c n s l w hr hn (by omega) (by omega) h3 (by rw [← hlen]; exact h4)
end Go.Proofs.Ytinoekcancgamaa
