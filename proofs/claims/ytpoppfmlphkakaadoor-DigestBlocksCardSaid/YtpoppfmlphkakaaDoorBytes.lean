/-
  BYTES: contracts of digest's functions on numbers and bytes.
-/
import Derived.Test.YtpoppfmlphkakaaDoorRows
import Derived.Test.YtpoppfmlphkakaaDoorMath
import Derived.WalkKit
import Derived.WalkLawsBesides
namespace Go.Proofs.YtpoppfmlphkakaaDoor
set_option linter.unusedVariables false
set_option linter.unusedSimpArgs false
set_option maxRecDepth 100000
open Go.RowKit

theorem u8_info : (Tryd.prog.info? 5).map (fun i => (i.zero, i.size, i.bytes)) = some (some (.int .u8 0), 1, 1) := by kernel_rfl

set_option maxHeartbeats 800000 in
theorem appendUint_any (B : Nat) (v : Value) (n s : Nat) (l : List UInt8) (w : World) (hB : B ≤ w.heap.size) (hn : n < 18446744073709551616) (hs : s ≤ 8) (hl : l.length ≤ 100000) (hown : w.ownsRow B 5 1 v l.length (bv l)) :
    Calls Tryd.prog 41 #[v, .int .u64 (n : Int), .int .i64 (s : Int)] w fun e w' =>
      ∃ v', e = .returned v' ∧ w'.ownsRow B 5 1 v' (l ++ be n s).length (bv (l ++ be n s)) ∧ Below B w w' := by
  obtain ⟨i0, hi, hz0, hz1, hz2⟩ := info_parts u8_info
  go_enter Tryd.func41, Tryd.ntmps41
  go_wp2
  go_loopw [0, 7] (fun u i wr => ∃ k : Nat, k ≤ s ∧ i = .int .i64 ((s : Int) - (k : Int) - 1) ∧ wr.ownsRow B 5 1 u (l ++ be (n / 256 ^ (s - k)) k).length (bv (l ++ be (n / 256 ^ (s - k)) k)) ∧ Below B w wr)
    (fun _ i _ => (intOf i + 1).toNat)
  case atStart => exact ⟨0, Nat.zero_le _, by simp, by simpa [be] using hown, Below.refl _ _⟩
  case round =>
    obtain ⟨k, hk, rfl, hownr, hnx⟩ := hrel
    have hsz := hnx.size
    have hlen : (l ++ be (n / 256 ^ (s - k)) k).length = l.length + k := by simp [be_length]
    have H1 := Lib.hid hlen; clear hlen
    by_cases hlt : k < s
    · have hb := u8v_shr n (s - k - 1)
      have hm := be_more n s k hlt
      have H2 := Lib.hid hm; clear hm
      have H3 := Lib.hid hb; clear hb
      go_wp2_with (at_builtin; refine wpList_append_any _ rfl _ _ 22 rfl B 5 i0 (.int .u8 0) 1 1 Tryd.underlying22 hi hz0 hz1 hz2 rfl (by decide) _ _ _ rfl (hownr.alloc _) (wr.heap.size + 1) _ 1 1 _ rfl (reads_new1 _ _ H3.out) (bv_oneCell [_]) (by rw [H1.out]; unfold maxLen; omega) (by rw [H1.out]; omega) (by simp; omega) ?_; intro v1 w1 hown1 hg1 _)
      have R : w1.ownsRow B 5 1 v1 (l ++ be (n / 256 ^ (s - (k + 1))) (k + 1)).length (bv (l ++ be (n / 256 ^ (s - (k + 1))) (k + 1))) := by
        rw [← H2.out, ← List.append_assoc, bv_append, List.length_append]
        exact hown1
      have hnx1 : Below B w w1 := (hnx.alloc (by omega) _).grown hg1 (by simp; omega) (fun g hg => (hownr.lt g hg).1)
      go_roundw
      case rel => exact ⟨k + 1, by omega, by congr 1; omega, R, hnx1⟩
      case measure => simp [intOf]; omega
    · obtain rfl : k = s := by omega
      go_wp2
      go_ret
      exact ⟨_, rfl, by simpa using hownr, hnx⟩

set_option maxHeartbeats 800000 in
theorem join_any (b cap : Nat) (ps : List Piece) (w : World) (hb : b < w.heap.size) (hc : ∀ i p, ps[i]? = some p → w.cell? ⟨b, i, none⟩ = some p.val)
    (hr : ∀ p ∈ ps, Reads w w.heap.size 1 p.A p.n (bv p.l)) (hps : ps.length ≤ 100) (hl : (flat ps).length ≤ 140737488351232) :
    Calls Tryd.prog 42 #[.slice (some ⟨b, 0, none⟩) ps.length cap] w fun e w' =>
      ∃ v', e = .returned v' ∧ w'.ownsRow w.heap.size 5 1 v' (flat ps).length (bv (flat ps)) ∧ Below w.heap.size w w' := by
  obtain ⟨i0, hi, hz0, hz1, hz2⟩ := info_parts u8_info
  go_enter Tryd.func42, Tryd.ntmps42
  go_wp2
  go_loopw [3, 8] (fun u i wr => ∃ k : Nat, k ≤ ps.length ∧ i = .int .i64 (k : Int) ∧ wr.ownsRow w.heap.size 5 1 u (flat (ps.take k)).length (bv (flat (ps.take k))) ∧ Below w.heap.size w wr)
    (fun _ i _ => ps.length - (intOf i).toNat)
  case atStart => exact ⟨0, Nat.zero_le _, rfl, World.ownsRow_nil _ _ _ _, Below.refl _ _⟩
  case round =>
    obtain ⟨k, hk, rfl, hownr, hnx⟩ := hrel
    have hsz := hnx.size
    by_cases hlt : k < ps.length
    · obtain ⟨p, hp⟩ : ∃ p, ps[k]? = some p := ⟨_, List.getElem?_eq_getElem hlt⟩
      have hcx : wr.cell? ⟨b, k, none⟩ = some (.slice p.A p.n p.c) := (hnx.cell (by exact hb)).trans (hc k p hp)
      have hrx := (hr p (List.mem_of_getElem? hp)).below hnx
      have hf := flat_take_succ hp
      have hle := flat_take_le ps (k + 1)
      have hlen : (flat (ps.take (k + 1))).length = (flat (ps.take k)).length + p.n := by
        have := hrx.1
        rw [hf, List.length_append]
        simp at this
        omega
      have H1 := Lib.hid hf; clear hf
      have H2 := Lib.hid hlen; clear hlen
      have H3 := Lib.hid hp; clear hp
      go_wp2_with (at_builtin; refine wpList_append_any _ rfl _ _ 22 rfl w.heap.size 5 i0 (.int .u8 0) 1 1 Tryd.underlying22 hi hz0 hz1 hz2 rfl (by decide) _ _ _ rfl hownr w.heap.size p.A p.n p.c (bv p.l) rfl hrx (bv_oneCell _) (by have := H2.out; unfold maxLen; omega) (by have := H2.out; omega) hsz ?_; intro v1 w1 hown1 hg1 _)
      have R : w1.ownsRow w.heap.size 5 1 v1 (flat (ps.take (k + 1))).length (bv (flat (ps.take (k + 1)))) := by
        rw [H2.out, H1.out, bv_append]
        exact hown1
      have hnx1 : Below w.heap.size w w1 := hnx.grown hg1 hsz (fun g hg => (hownr.lt g hg).1)
      go_roundw
      case rel => exact ⟨k + 1, by omega, by go_num, R, hnx1⟩
      case measure => simp [intOf]; omega
    · obtain rfl : k = ps.length := by omega
      go_wp2
      go_ret
      exact ⟨_, rfl, by simpa using hownr, hnx⟩

/-- 'join' of one piece that a literal lays. -/
theorem join_one {w : World} {P' : Piece} (hr : Reads w w.heap.size 1 P'.A P'.n (bv P'.l)) (hl : P'.l.length ≤ 140737488351232) :
    Calls Tryd.prog 42 #[.slice (some ⟨w.heap.size, 0, none⟩) 1 1] (w.alloc (.cells #[.slice P'.A P'.n P'.c] 22)) fun e w' =>
      ∃ v', e = .returned v' ∧ w'.ownsRow w.heap.size 5 1 v' P'.l.length (bv P'.l) ∧ Below w.heap.size w w' := by
  have h := join_any w.heap.size 1 [P'] (w.alloc (.cells #[.slice P'.A P'.n P'.c] 22)) (by simp) (one_piece w _ P')
    (fun p hp => by
      simp only [List.mem_singleton] at hp
      subst hp
      exact ((hr.alloc (Nat.le_refl _) _).more (by simp)))
    (by simp) (by rw [flat_one]; exact hl)
  refine h.mono ?_
  rintro e w' ⟨v', rfl, hown, hb⟩
  rw [flat_one] at hown
  exact ⟨v', rfl, own_more hown (by simp), (((Below.refl _ _).alloc (Nat.le_refl _) _).trans (hb.mono (by simp)))⟩

set_option maxHeartbeats 800000 in
theorem takeBytes_ok (A : Option Addr) (n c k m : Nat) (l : List UInt8) (w : World) (hr : Reads w w.heap.size 1 A n (bv l)) (hnc : n ≤ c) (hc : c ≤ 9223372036854775807) (hl : n ≤ 140737488351232) (hk : k + m ≤ n) :
    Calls Tryd.prog 17 #[.slice A n c, .int .i64 (k : Int), .int .i64 (m : Int)] w fun e w' =>
      ∃ v', e = .returned (.tuple #[v', .int .i64 ((k : Int) + (m : Int)), .int .i64 0]) ∧ w'.ownsRow w.heap.size 5 1 v' ((l.drop k).take m).length (bv ((l.drop k).take m)) ∧ Below w.heap.size w w' := by
  obtain ⟨A', hA'⟩ : ∃ A', A' = if c = k then A else A.map (fun x => x.add k) := ⟨_, rfl⟩
  have hr' := cut_take (c := c) (k := k) (m := m) hr hnc hk
  rw [← hA'] at hr'
  have hlen : ((l.drop k).take m).length = m := by have := hr'.1; simpa using this
  have H1 := Lib.hid hlen; clear hlen
  have hj := fun cc => join_one (w := w) (P' := ⟨A', m, cc, (l.drop k).take m⟩) hr' (by show ((l.drop k).take m).length ≤ _; rw [H1.out]; omega)
  have H2 := Lib.hid hj; clear hj
  by_cases hck : c = k
  · rw [if_pos hck] at hA'
    subst hA' hck
    go_enter Tryd.func17, Tryd.ntmps17
    go_wp2_with (go_at_call 42; refine (H2.out _).mono ?_; rintro e w1 ⟨v1, rfl, hown1, hb1⟩)
    go_ret3
    exact ⟨v1, rfl, hown1, hb1⟩
  · rw [if_neg hck] at hA'
    subst hA'
    go_enter Tryd.func17, Tryd.ntmps17
    go_wp2_with (go_at_call 42; refine (H2.out _).mono ?_; rintro e w1 ⟨v1, rfl, hown1, hb1⟩)
    go_ret3
    exact ⟨v1, rfl, hown1, hb1⟩

theorem takeBytes_arg (A : Option Addr) (n c : Nat) (k m : Int) (w : World) (h : k < 0 ∨ (n : Int) < k ∨ m < 0) :
    Calls Tryd.prog 17 #[.slice A n c, .int .i64 k, .int .i64 m] w fun e w' =>
      e = .returned (.tuple #[.slice none 0 0, .int .i64 0, .int .i64 2]) ∧ w = w' := by
  by_cases h1 : k < 0
  · go_enter Tryd.func17, Tryd.ntmps17
    go_wp2
    go_ret3
    exact ⟨rfl, rfl⟩
  · by_cases h2 : (n : Int) < k
    · go_enter Tryd.func17, Tryd.ntmps17
      go_wp2
      go_ret3
      exact ⟨rfl, rfl⟩
    · have h3 : m < 0 := by omega
      clear h
      go_enter Tryd.func17, Tryd.ntmps17
      go_wp2
      go_ret3
      exact ⟨rfl, rfl⟩
theorem takeBytes_short (A : Option Addr) (n c : Nat) (k m : Int) (w : World) (h1 : 0 ≤ k) (h2 : k ≤ n) (h3 : 0 ≤ m) (h4 : (n : Int) - k < m) (hn : n ≤ 9223372036854775807) :
    Calls Tryd.prog 17 #[.slice A n c, .int .i64 k, .int .i64 m] w fun e w' =>
      e = .returned (.tuple #[.slice none 0 0, .int .i64 0, .int .i64 10]) ∧ w = w' := by
  go_enter Tryd.func17, Tryd.ntmps17
  go_wp2
  go_ret3
  exact ⟨rfl, rfl⟩

/-- TakeBytes, of whatever arguments. -/
theorem takeBytes_any (A : Option Addr) (n c : Nat) (k m : Int) (l : List UInt8) (w : World) (hr : Reads w w.heap.size 1 A n (bv l)) (hnc : n ≤ c) (hc : c ≤ 9223372036854775807) (hl : n ≤ 140737488351232) :
    Calls Tryd.prog 17 #[.slice A n c, .int .i64 k, .int .i64 m] w fun e w' =>
      ∃ v', e = .returned (.tuple #[v', .int .i64 (takeBytesS l k m).2.1, .int .i64 (takeBytesS l k m).2.2]) ∧ w'.ownsRow w.heap.size 5 1 v' (takeBytesS l k m).1.length (bv (takeBytesS l k m).1) ∧ Below w.heap.size w w' := by
  have hln : l.length = n := by have := hr.1; simpa using this
  unfold takeBytesS
  rw [hln]
  by_cases h1 : k < 0 ∨ (n : Int) < k ∨ m < 0
  · rw [if_pos h1]
    refine (takeBytes_arg A n c k m w h1).mono ?_
    rintro e w' ⟨rfl, rfl⟩
    exact ⟨_, rfl, World.ownsRow_nil _ _ _ _, Below.refl _ _⟩
  · rw [if_neg h1]
    by_cases h2 : (n : Int) - k < m
    · rw [if_pos h2]
      refine (takeBytes_short A n c k m w (by omega) (by omega) (by omega) h2 (by omega)).mono ?_
      rintro e w' ⟨rfl, rfl⟩
      exact ⟨_, rfl, World.ownsRow_nil _ _ _ _, Below.refl _ _⟩
    · rw [if_neg h2]
      obtain ⟨k, rfl⟩ := Int.eq_ofNat_of_zero_le (show 0 ≤ k by omega)
      obtain ⟨m, rfl⟩ := Int.eq_ofNat_of_zero_le (show 0 ≤ m by omega)
      exact takeBytes_ok A n c k m l w hr hnc hc hl (by omega)

end Go.Proofs.YtpoppfmlphkakaaDoor
