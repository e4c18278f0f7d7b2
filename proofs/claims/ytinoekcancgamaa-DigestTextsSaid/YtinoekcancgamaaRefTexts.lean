/-
  REFTEXTS: contracts of the specification's digit, Hex, Hexed, ParseHex, Parsed.
-/
import Derived.Test.YtinoekcancgamaaTexts2
namespace Go.Proofs.Ytinoekcancgamaa
set_option linter.unusedVariables false
set_option linter.unusedSimpArgs false
open Go.RowKit

theorem dig_toNat {k : Nat} (h : k < 16) : (dig k).toNat = if k < 10 then 48 + k else 87 + k := by
  unfold dig
  split
  · rw [ofNat_toNat]; omega
  · rw [ofNat_toNat]; omega
/-- What the specification's digit comes to. -/
def dgN (c : UInt8) : Nat := if dvB c then dvN c else 16
theorem dgN_hit {c : UInt8} {k : Nat} (hk : k < 16) (h : (dig k).toNat = c.toNat) : dgN c = k := by
  rw [dig_toNat hk] at h
  unfold dgN dvB dvN
  split at h
  · rw [if_pos (by simp; omega), if_pos (by omega)]; omega
  · rw [if_pos (by simp; omega), if_neg (by omega), if_pos (by omega)]; omega
theorem dgN_miss {c : UInt8} (h : ∀ k, k < 16 → (dig k).toNat ≠ c.toNat) : dgN c = 16 := by
  unfold dgN
  rw [if_neg]
  unfold dvB
  simp
  constructor
  · intro h1
    have := h (c.toNat - 48)
    by_cases h2 : c.toNat ≤ 57
    · have h3 := this (by omega)
      rw [dig_toNat (by omega), if_pos (by omega)] at h3
      omega
    · omega
  · intro h1
    have := h (c.toNat - 87)
    by_cases h2 : c.toNat ≤ 102
    · have h3 := this (by omega)
      rw [dig_toNat (by omega), if_neg (by omega)] at h3
      omega
    · omega
theorem dgN_16 (c : UInt8) : (dgN c = 16) ↔ dvB c = false := by
  unfold dgN
  have := dvN_lt c
  cases dvB c <;> simp
  omega
theorem index_digs' (K : Int) (k : Nat) (hK : K = (k : Int)) (hk : k < 16) (w : World) :
    (Instr.index 9 (.string { data := #[48, 49, 50, 51, 52, 53, 54, 55, 56, 57, 97, 98, 99, 100, 101, 102] }) (.int .i64 K)).run Try.prog w = .ok (.int .u8 ((dig k).toNat : Int)) w := by
  subst hK
  rw [run_index_string w 9 _ .i64 (k : Int) Try.underlying9]
  have h1 := digs_at ⟨k, hk⟩
  have hsz : digs.size = 16 := rfl
  rw [dif_pos ⟨by omega, by show (k : Int) < (digs.size : Int); rw [hsz]; omega⟩]
  rw [← h1]
  rfl

set_option maxHeartbeats 800000 in
theorem refDigit_any (c : UInt8) (w : World) :
    Calls Try.prog 23 #[.int .u8 (c.toNat : Int)] w fun e w' => e = .returned (.int .i64 (dgN c : Int)) ∧ w' = w := by
  go_enter Try.func23, Try.ntmps23
  go_wp2
  go_loop [3] (fun i => ∃ k : Nat, k ≤ 16 ∧ i = .int .i64 (k : Int) ∧ Hid (∀ j, j < k → (dig j).toNat ≠ c.toNat)) (fun i => 16 - (intOf i).toNat)
  case atStart => exact ⟨0, by omega, rfl, fun j hj => by omega⟩
  case round =>
    obtain ⟨k, hk, rfl, hall⟩ := hrel
    by_cases hlt : k < 16
    · have q1 := fun W => index_digs' (k : Int) k rfl hlt W
      by_cases hc : (dig k).toNat = c.toNat
      · have hd := dgN_hit hlt hc
        have b1 : (((dig k).toNat : Int) == (c.toNat : Int)) = true := by rw [hc]; simp
        have HD := Lib.hid hd; clear hd hc
        go_wp2
        go_ret
        exact ⟨by rw [HD.out]; rfl, rfl⟩
      · have b1 : (((dig k).toNat : Int) == (c.toNat : Int)) = false := by rw [beq_eq_false_iff_ne]; omega
        have hn : Hid (∀ j, j < k + 1 → (dig j).toNat ≠ c.toNat) := fun j hj => by
          by_cases e : j = k
          · subst e; exact hc
          · exact hall.out j (by omega)
        clear hc
        go_wp2
        go_round
        case rel => exact ⟨k + 1, by omega, by go_num, hn⟩
        case measure => simp [intOf]; omega
    · obtain rfl : k = 16 := by omega
      have hd := dgN_miss hall.out
      have HD := Lib.hid hd; clear hd
      go_wp2
      go_ret
      exact ⟨by rw [HD.out]; rfl, rfl⟩

set_option maxHeartbeats 1600000 in
theorem refHex_ok (A : Option Addr) (n c : Nat) (l : List UInt8) (w : World) (hr : Reads w w.heap.size 1 A n (bv l)) (h : n ≤ 8192) :
    Calls Try.prog 20 #[.slice A n c] w fun e w' => e = .returned (.string ⟨(hexOf l).toArray⟩) ∧ Below w.heap.size w w' := by
  obtain ⟨i0, hi, hz0, hz1, hz2⟩ := info_parts u8_info
  have hlen : l.length = n := by have := hr.1; simpa using this
  have H1 := Lib.hid hlen; clear hlen
  go_enter Try.func20, Try.ntmps20
  go_wp2
  go_loopw [3, 4] (fun u i wr => ∃ k : Nat, k ≤ n ∧ i = .int .i64 (k : Int) ∧ wr.ownsRow w.heap.size 5 1 u (hexOf (l.take k)).length (bv (hexOf (l.take k))) ∧ Below w.heap.size w wr)
    (fun _ i _ => n - (intOf i).toNat)
  case atStart => exact ⟨0, Nat.zero_le _, rfl, World.ownsRow_nil _ _ _ _, Below.refl _ _⟩
  case round =>
    obtain ⟨k, hk, rfl, hownr, hnx⟩ := hrel
    have hsz := hnx.size
    by_cases hlt : k < n
    · obtain ⟨ad, u, rfl, _, hx0, hcell⟩ := (hr.below hnx).at_ hlt
      obtain ⟨x, hx, rfl⟩ := bv_at hx0
      clear hx0
      unfold u8v at hcell
      have hs := take_snoc hx
      have hv := hexOf_snoc (l.take k) x
      rw [← hs] at hv
      have hlen : (hexOf (l.take k)).length = 2 * k := by rw [hexOf_length, List.length_take]; have := H1.out; omega
      have H3 := Lib.hid hv; clear hv hs
      have H4 := Lib.hid hlen; clear hlen
      have hxl := x.toNat_lt
      have q1 := fun W => index_digs ((x.toNat : Int) / 16) (x.toNat / 16) (by simp) (by omega) W
      have q2 := fun W => index_digs ((x.toNat : Int) % 16) (x.toNat % 16) (by simp) (by omega) W
      have q3 := fun W => index_digs (IntKind.u8.wrap ((x.toNat : Int) / 16)) (x.toNat / 16) (by rw [IntKind.wrap_u8]; omega) (by omega) W
      have q5 := fun W => index_digs ((x.toNat : Int).tmod 16) (x.toNat % 16) (by rw [Int.tmod_eq_emod_of_nonneg (by omega)]; omega) (by omega) W
      have q4 := fun W => index_digs (IntKind.u8.wrap ((x.toNat : Int) % 16)) (x.toNat % 16) (by rw [IntKind.wrap_u8]; omega) (by omega) W
      go_wp2
      go_region_law ((refine step_append_any _ rfl (.tmp 11) (.tmp 24) 22 rfl w.heap.size 5 i0 (.int .u8 0) 1 1 Try.underlying22 hi hz0 hz1 hz2 rfl (by decide) _ _ _ (by simp [Act.eval, Act.put]) ((show wr.drew.ownsRow _ _ _ _ _ _ from hownr).alloc _) (wr.drew.heap.size + 1) _ 2 2 (bv [dig (x.toNat / 16), dig (x.toNat % 16)]) (by simp [Act.eval, Act.put]) (reads_new2 _ _ rfl rfl) (bv_oneCell _) (by rw [H4.out]; unfold maxLen; omega) (by rw [H4.out]; omega) (by simp; omega) ?_; intro v3 w3 hown3 hg3 _))
      all_goals
        have R : w3.ownsRow w.heap.size 5 1 v3 (hexOf (l.take (k + 1))).length (bv (hexOf (l.take (k + 1)))) := by
          rw [H3.out, bv_append, List.length_append]
          exact hown3
        have hnx3 : Below w.heap.size w w3 := (hnx.drew.alloc (by exact hsz) _).grown hg3 (by simp; omega) (fun g hg => (hownr.lt g hg).1)
        clear hown3 hg3
        go_wp2
        go_roundw
        case rel => exact ⟨k + 1, by omega, by go_num, R, hnx3⟩
        case measure => simp [intOf]; omega
    · obtain rfl : k = n := by omega
      rw [List.take_of_length_le (Nat.le_of_eq H1.out)] at hownr
      obtain ⟨A1, c1, rfl, _, _, _⟩ := own_form hownr
      have hr1 := Reads.of_own hownr
      have q1 := run_str (P := Try.prog) 22 5 9 Try.underlying22 Try.underlying5 Try.underlying9 (c := c1) hr1
      clear hownr hr1
      go_wp2
      go_ret
      exact ⟨rfl, hnx⟩

theorem refHexed_any (A : Option Addr) (n c : Nat) (l : List UInt8) (w : World) (hr : Reads w w.heap.size 1 A n (bv l)) :
    Calls Try.prog 12 #[.slice A n c] w fun e w' => e = .returned (.tuple #[.string ⟨(hexS l).1.toArray⟩, .int .i64 (hexS l).2]) ∧ Below w.heap.size w w' := by
  have hlen : l.length = n := by have := hr.1; simpa using this
  unfold hexS
  by_cases h : 8192 < l.length
  · rw [if_pos h]
    have h' : (8192 : Int) < (n : Int) := by omega
    go_enter Try.func12, Try.ntmps12
    go_wp2
    go_ret2
    exact ⟨rfl, Below.refl _ _⟩
  · rw [if_neg h]
    have h' : n ≤ 8192 := by omega
    have hc := refHex_ok A n c l w hr h'
    have HC := Lib.hid hc; clear hc hlen h
    go_enter Try.func12, Try.ntmps12
    go_wp2_with fail
    refine HC.out.mono ?_
    rintro e w1 ⟨rfl, hb⟩
    go_wp2
    go_ret2
    exact ⟨rfl, hb⟩

theorem refParseHex_odd (s : ByteArray) (w : World) (h : s.size ≤ 16384) (h2 : s.size % 2 = 1) :
    Calls Try.prog 22 #[.string s] w fun e w' => e = .returned (.tuple #[.slice none 0 0, .bool false]) ∧ w = w' := by
  have hx : (((s.size : Int) % 2) != 0) = true := by rw [bne_iff_ne]; omega
  go_enter Try.func22, Try.ntmps22
  go_wp2
  go_ret2
  exact ⟨rfl, rfl⟩
def PostR (w : World) (o : Option (List UInt8)) (e : Ending) (w' : World) : Prop :=
  ∃ v', e = .returned (.tuple #[v', .bool o.isSome]) ∧ w'.ownsRow w.heap.size 5 1 v' (o.getD []).length (bv (o.getD [])) ∧ Below w.heap.size w w'
theorem pair_byte (a b : UInt8) (ha : dvB a = true) (hb : dvB b = true) : Value.int .u8 (16 * (dgN a : Int) + (dgN b : Int)) = u8v (UInt8.ofNat (16 * dvN a + dvN b)) := by
  have e1 : dgN a = dvN a := by unfold dgN; rw [if_pos ha]
  have e2 : dgN b = dvN b := by unfold dgN; rw [if_pos hb]
  have h1 := dvN_lt a
  have h2 := dvN_lt b
  rw [e1, e2, ← u8v_ofNat]
  congr 1
  omega
set_option maxHeartbeats 1600000 in
theorem refParseHex_even (s : ByteArray) (w : World) (m : Nat) (h : s.size ≤ 16384) (h2 : 2 * m = s.size) :
    Calls Try.prog 22 #[.string s] w (PostR w (unhexN s.data.toList m)) := by
  obtain ⟨i0, hi, hz0, hz1, hz2⟩ := info_parts u8_info
  have hx : (((s.size : Int) % 2) != 0) = false := by rw [bne_eq_false_iff_eq]; omega
  have hll : s.data.toList.length = 2 * m := by rw [h2]; rfl
  have H1 := Lib.hid hll; clear hll
  go_enter Try.func22, Try.ntmps22
  go_wp2
  clear hx
  go_loopw [4, 5] (fun u i wr => ∃ (k : Nat) (l : List UInt8), k ≤ m ∧ i = .int .i64 (2 * (k : Int)) ∧ Hid (unhexN s.data.toList k = some l) ∧ wr.ownsRow w.heap.size 5 1 u l.length (bv l) ∧ Below w.heap.size w wr)
    (fun _ i _ => 2 * m - (intOf i).toNat)
  case atStart => exact ⟨0, [], Nat.zero_le _, rfl, rfl, World.ownsRow_nil _ _ _ _, Below.refl _ _⟩
  case round =>
    obtain ⟨k, l, hk, rfl, hun, hownr, hnx⟩ := hrel
    have hsz := hnx.size
    by_cases hlt : k < m
    · obtain ⟨a, ha⟩ : ∃ a, s.data.toList[2 * k]? = some a := ⟨_, List.getElem?_eq_getElem (by rw [H1.out]; omega)⟩
      obtain ⟨b, hb⟩ : ∃ b, s.data.toList[2 * k + 1]? = some b := ⟨_, List.getElem?_eq_getElem (by rw [H1.out]; omega)⟩
      have hst := unhexN_step hun.out ha hb
      have q1 := fun W => index_str s a (2 * (k : Int)) (2 * k) (by omega) ha W
      have q2 := fun W => index_str s b (2 * (k : Int) + 1) (2 * k + 1) (by omega) hb W
      have hlen := unhexN_len hun.out
      have g1 : IntKind.i64.wrap (2 * (k : Int) + 1) = 2 * (k : Int) + 1 := IntWalk.i64_in _ (by omega)
      clear ha hb
      have H3 := Lib.hid hst; clear hst
      have H4 := Lib.hid hlen; clear hlen
      go_wp2
      go_quiet ((go_at_call 23; exact Calls.quiet_of_same (refDigit_any _ _)))
      clear g1 q1 q2
      have hnd := below_drewN hnx nq
      have hownd := (show (wr.drewN nq).ownsRow _ _ _ _ _ _ from hownr)
      have hszd := hnd.size
      clear hownr hnx hsz
      generalize wr.drewN nq = w2 at *
      by_cases hda : dvB a = true
      · have b1 : ((dgN a : Int) == 16) = false := by rw [beq_eq_false_iff_ne]; have := (dgN_16 a); rw [hda] at this; simp at this; omega
        by_cases hdb : dvB b = true
        · have b2 : ((dgN b : Int) == 16) = false := by rw [beq_eq_false_iff_ne]; have := (dgN_16 b); rw [hdb] at this; simp at this; omega
          have hpb := pair_byte a b hda hdb
          have hun2 : Hid (unhexN s.data.toList (k + 1) = some (l ++ [UInt8.ofNat (16 * dvN a + dvN b)])) := by rw [Hid, H3.out, hda, hdb]; rfl
          have h1n : dgN a < 16 := by unfold dgN; rw [if_pos hda]; exact dvN_lt a
          have h2n : dgN b < 16 := by unfold dgN; rw [if_pos hdb]; exact dvN_lt b
          have H6 := Lib.hid hpb; clear hpb hda hdb
          go_wp2_with (at_builtin; refine wpList_append_any _ rfl _ _ 22 rfl w.heap.size 5 i0 (.int .u8 0) 1 1 Try.underlying22 hi hz0 hz1 hz2 rfl (by decide) _ _ _ rfl (hownd.alloc _) (w2.heap.size + 1) _ 1 1 _ rfl (reads_new1 _ _ H6.out) (bv_oneCell [_]) (by rw [H4.out]; unfold maxLen; omega) (by rw [H4.out]; omega) (by simp; omega) ?_; intro v1 w3 hown3 hg3 _)
          have R : w3.ownsRow w.heap.size 5 1 v1 (l ++ [UInt8.ofNat (16 * dvN a + dvN b)]).length (bv (l ++ [UInt8.ofNat (16 * dvN a + dvN b)])) := by
            rw [bv_append, List.length_append]
            exact hown3
          have hnx2 : Below w.heap.size w w3 := (hnd.alloc (by omega) _).grown hg3 (by simp; omega) (fun g hg => (hownd.lt g hg).1)
          clear hownd hown3 hg3 hun
          go_roundw
          case rel => exact ⟨k + 1, _, by omega, by go_num, hun2, R, hnx2⟩
          case measure => simp [intOf]; omega
        · have hdb2 : dvB b = false := Bool.eq_false_iff.2 hdb
          have hnone : unhexN s.data.toList m = none := unhexN_mono (k := k + 1) (by rw [H3.out, hda, hdb2]; rfl) (by omega)
          have hN := Lib.hid hnone; clear hnone
          have b2 : ((dgN b : Int) == 16) = true := by rw [(dgN_16 b).2 hdb2]; rfl
          clear hdb hdb2 hda
          go_wp2
          go_ret2
          rw [hN.out]
          exact ⟨_, rfl, World.ownsRow_nil _ _ _ _, hnd⟩
      · have hda2 : dvB a = false := Bool.eq_false_iff.2 hda
        have hnone : unhexN s.data.toList m = none := unhexN_mono (k := k + 1) (by rw [H3.out, hda2]; rfl) (by omega)
        have hN := Lib.hid hnone; clear hnone
        have b1 : ((dgN a : Int) == 16) = true := by rw [(dgN_16 a).2 hda2]; rfl
        clear hda hda2
        go_wp2
        go_ret2
        rw [hN.out]
        exact ⟨_, rfl, World.ownsRow_nil _ _ _ _, hnd⟩
    · obtain rfl : k = m := by omega
      go_wp2
      go_ret2
      rw [hun.out]
      exact ⟨_, rfl, hownr, hnx⟩

theorem refParsed_any (s : ByteArray) (w : World) (hmax : s.size ≤ 140737488351232) :
    Calls Try.prog 14 #[.string s] w fun e w' =>
      ∃ v', e = .returned (.tuple #[v', .int .i64 (parseS s.data.toList).2]) ∧
        w'.ownsRow w.heap.size 5 1 v' (parseS s.data.toList).1.length (bv (parseS s.data.toList).1) ∧ Below w.heap.size w w' := by
  have hsz : s.data.toList.length = s.size := rfl
  unfold parseS
  rw [hsz]
  by_cases h : 16384 < s.size
  · rw [if_pos h]
    go_enter Try.func14, Try.ntmps14
    go_wp2
    go_ret2
    exact ⟨_, rfl, World.ownsRow_nil _ _ _ _, Below.refl _ _⟩
  · rw [if_neg h]
    by_cases h2 : s.size % 2 = 0
    · rw [if_pos h2]
      have hc := refParseHex_even s w (s.size / 2) (by omega) (by omega)
      generalize unhexN s.data.toList (s.size / 2) = u at *
      have HC := Lib.hid hc; clear hc hsz h2
      cases u with
      | none =>
        go_enter Try.func14, Try.ntmps14
        go_wp2_with fail
        refine HC.out.mono ?_
        rintro e w1 ⟨v1, rfl, hown, hb⟩
        have H7 := Lib.hid hown; clear hown
        go_wp2
        go_ret2
        exact ⟨_, rfl, World.ownsRow_nil _ _ _ _, hb⟩
      | some l =>
        go_enter Try.func14, Try.ntmps14
        go_wp2_with fail
        refine HC.out.mono ?_
        rintro e w1 ⟨v1, rfl, hown, hb⟩
        have H7 := Lib.hid hown; clear hown
        go_wp2
        go_ret2
        exact ⟨_, rfl, H7.out, hb⟩
    · rw [if_neg h2]
      have hc := refParseHex_odd s w (by omega) (by omega)
      have HC := Lib.hid hc; clear hc hsz h2
      go_enter Try.func14, Try.ntmps14
      go_wp2_with fail
      refine HC.out.mono ?_
      rintro e w1 ⟨rfl, rfl⟩
      go_wp2
      go_ret2
      exact ⟨_, rfl, World.ownsRow_nil _ _ _ _, Below.refl _ _⟩
end Go.Proofs.Ytinoekcancgamaa
