/-
  DIGESTORDERS: the walk.
-/
import Derived.Test.YtpoppfmlphkakaaDoorAlive
import Derived.Test.YtpoppfmlphkakaaDoorOrdersMath
import Derived.Test.YtpoppfmlphkakaaDoorFrame
namespace Go.Proofs.YtpoppfmlphkakaaDoor.digestOrders
set_option linter.unusedVariables false
set_option linter.unusedSimpArgs false
set_option maxRecDepth 100000
open Go.RowKit

theorem put_codes (n : Nat) (s : Int) : (putUintS [] n s = ([], 2)) ∨ (∃ k : Nat, s = k ∧ 1 ≤ k ∧ k ≤ 8 ∧ n / 256 ^ k = 0 ∧ putUintS [] n s = (be n k, 0)) := by
  unfold putUintS
  by_cases h : s < 1 ∨ 8 < s ∨ n / 256 ^ s.toNat ≠ 0
  · exact .inl (if_pos h)
  · rw [if_neg h, if_neg (by simp; omega)]
    refine .inr ⟨s.toNat, by omega, by omega, by omega, ?_, by simp⟩
    rcases Nat.eq_zero_or_pos (n / 256 ^ s.toNat) with h' | h'
    · exact h'
    · exact absurd (.inr (.inr (by omega))) h

theorem put_nil (n : Nat) (s : Int) (d : List UInt8) (k : Int) (w : World) (hn : n < 18446744073709551616) (h : putUintS [] n s = (d, k)) :
    Calls Tryd.prog 14 #[.slice none 0 0, .int .u64 (n : Int), .int .i64 s] w fun e w' =>
      ∃ A c, e = .returned (.tuple #[.slice A d.length c, .int .i64 k]) ∧ Hid (Reads w' w'.heap.size 1 A d.length (bv d)) ∧ Below w.heap.size w w' := by
  refine (putUint_any none 0 0 n s [] w Reads.none_ hn).mono ?_
  rintro e w' ⟨v, rfl, hown, hb⟩
  rw [h] at hown ⊢
  obtain ⟨A, c, rfl, h1, h2, _⟩ := own_form hown
  exact ⟨A, c, rfl, Lib.hid (Reads.of_own hown), hb⟩

set_option maxHeartbeats 1600000 in
theorem orders_err (m n : Nat) (s : Int) (d1 d2 : List UInt8) (k1 k2 : Int) (w : World) (hm : m < 18446744073709551616) (hn : n < 18446744073709551616)
    (h1 : putUintS [] m s = (d1, k1)) (h2 : putUintS [] n s = (d2, k2)) (hk : (k1 = 2 ∧ k2 = 0) ∨ (k1 = 2 ∧ k2 = 2) ∨ (k1 = 0 ∧ k2 = 2)) (hrc : HasRc w) (hfs : HasFs w) :
    Calls Tryd.prog 9 #[.int .u64 (m : Int), .int .u64 (n : Int), .int .i64 s] w fun e w' => e = .returned (.bool true) ∧ Below w.heap.size w w' := by
  have P1 := Lib.hid (fun W => put_nil m s d1 k1 W hm h1)
  have P2 := Lib.hid (fun W => put_nil n s d2 k2 W hn h2)
  have HRC := Lib.hid hrc; have HFS := Lib.hid hfs
  clear hrc hfs h1 h2
  rcases hk with ⟨rfl, rfl⟩ | ⟨rfl, rfl⟩ | ⟨rfl, rfl⟩
  all_goals
    go_enter Tryd.func9, Tryd.ntmps9
    go_wp2_with fail
    refine (alive_true _ HRC.out HFS.out).mono ?_
    rintro e w1 ⟨rfl, hb1⟩
    have B1 := Lib.hid hb1; clear hb1
    go_wp2_with fail
    refine (P1.out _).mono ?_
    rintro e w2 ⟨A2, c2, rfl, hr2, hb2⟩
    have hb := B1.out.trans (hb2.mono B1.out.size)
    have B2 := Lib.hid hb; clear hb hb2
    go_wp2_with fail
    refine (P2.out _).mono ?_
    rintro e w3 ⟨A3, c3, rfl, hr3, hb3⟩
    have hb := B2.out.trans (hb3.mono B2.out.size)
    have B3 := Lib.hid hb; clear hb hb3
    go_wp2
    go_ret
    exact ⟨rfl, B3.out⟩

set_option maxHeartbeats 1600000 in
theorem orders_ok (m n s : Nat) (w : World) (hm : m < 18446744073709551616) (hn : n < 18446744073709551616)
    (h1 : putUintS [] m (s : Int) = (be m s, 0)) (h2 : putUintS [] n (s : Int) = (be n s, 0)) (hm2 : m / 256 ^ s = 0) (hn2 : n / 256 ^ s = 0) (hs : s ≤ 8) (hrc : HasRc w) (hfs : HasFs w) :
    Calls Tryd.prog 9 #[.int .u64 (m : Int), .int .u64 (n : Int), .int .i64 (s : Int)] w fun e w' => e = .returned (.bool true) ∧ Below w.heap.size w w' := by
  have P1 := Lib.hid (fun W => put_nil m s (be m s) 0 W hm h1)
  have P2 := Lib.hid (fun W => put_nil n s (be n s) 0 W hn h2)
  have L1 := be_length m s
  have L2 := be_length n s
  rw [L1] at P1
  rw [L2] at P2
  have HRC := Lib.hid hrc; have HFS := Lib.hid hfs
  have HL : Hid (Op.bytesLess (be m s) (be n s) = decide ((m : Int) < (n : Int))) := by
    refine Lib.hid ?_
    rw [less_be, mod_of_div hm2, mod_of_div hn2, Bool.eq_iff_iff]
    simp
  have HE : Hid ((be m s == be n s) = ((m : Int) == (n : Int))) := by
    refine Lib.hid ?_
    rw [Bool.eq_iff_iff, beq_iff_eq, beq_iff_eq, eq_be, mod_of_div hm2, mod_of_div hn2]
    omega
  have HS : Hid (s ≤ 8) := Lib.hid hs
  clear hrc hfs h1 h2 L1 L2 hm2 hn2 hs
  go_enter Tryd.func9, Tryd.ntmps9
  go_wp2_with fail
  refine (alive_true _ HRC.out HFS.out).mono ?_
  rintro e w1 ⟨rfl, hb1⟩
  have B1 := Lib.hid hb1; clear hb1
  go_wp2_with fail
  refine (P1.out _).mono ?_
  rintro e w2 ⟨A2, c2, rfl, hr2, hb2⟩
  have hb := B1.out.trans (hb2.mono B1.out.size)
  have B2 := Lib.hid hb; clear hb
  go_wp2_with fail
  refine (P2.out _).mono ?_
  rintro e w3 ⟨A3, c3, rfl, hr3, hb3⟩
  have hb := B2.out.trans (hb3.mono B2.out.size)
  have B3 := Lib.hid hb; clear hb
  have q1 := run_str (P := Tryd.prog) 22 5 9 Tryd.underlying22 Tryd.underlying5 Tryd.underlying9 (c := c2) (hr2.out.below hb3)
  have q2 := run_str (P := Tryd.prog) 22 5 9 Tryd.underlying22 Tryd.underlying5 Tryd.underlying9 (c := c3) hr3.out
  clear hb2 hb3 hr2 hr3
  have hL := HL.out; have hE := HE.out; have hs := HS.out
  go_wp2
  go_ret
  exact ⟨rfl, B3.out⟩

/-- The walk: true, whatever came in. -/
theorem digestOrders_walk (m n s : Int) (w : World) (hm : (Lit.int .u64 m).wf = true) (hn : (Lit.int .u64 n).wf = true) (_ : (Lit.int .i64 s).wf = true) (hrc : HasRc w) (hfs : HasFs w) :
    Calls Tryd.prog 9 #[.int .u64 m, .int .u64 n, .int .i64 s] w fun e w' => e = .returned (.bool true) ∧ Below w.heap.size w w' := by
  obtain ⟨m, rfl, hm'⟩ := u64_wf hm
  obtain ⟨n, rfl, hn'⟩ := u64_wf hn
  rcases put_codes m s with h1 | ⟨k, rfl, hk1, hk8, hd1, h1⟩
  · rcases put_codes n s with h2 | ⟨k', rfl, hk1', hk8', hd2, h2⟩
    · exact orders_err m n s _ _ _ _ w hm' hn' h1 h2 (.inr (.inl ⟨rfl, rfl⟩)) hrc hfs
    · exact orders_err m n _ _ _ _ _ w hm' hn' h1 h2 (.inl ⟨rfl, rfl⟩) hrc hfs
  · rcases put_codes n k with h2 | ⟨k', hk', hk1', hk8', hd2, h2⟩
    · exact orders_err m n _ _ _ _ _ w hm' hn' h1 h2 (.inr (.inr ⟨rfl, rfl⟩)) hrc hfs
    · obtain rfl : k = k' := by omega
      exact orders_ok m n k w hm' hn' h1 h2 hd1 hd2 hk8 hrc hfs
end Go.Proofs.YtpoppfmlphkakaaDoor.digestOrders
