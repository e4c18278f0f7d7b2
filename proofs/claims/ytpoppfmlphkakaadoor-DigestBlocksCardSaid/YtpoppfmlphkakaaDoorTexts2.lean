/-
  TEXTS2: the contract of digest.ParseHex.
-/
import Derived.Test.YtpoppfmlphkakaaDoorTexts
namespace Go.Proofs.YtpoppfmlphkakaaDoor
set_option linter.unusedVariables false
set_option linter.unusedSimpArgs false
set_option maxRecDepth 100000
open Go.RowKit

def unErr (o : Option (List UInt8)) : Int := match o with
  | some _ => 0
  | none => 11
def PostP (w : World) (o : Option (List UInt8)) (e : Ending) (w' : World) : Prop :=
  ∃ v', e = .returned (.tuple #[v', .int .i64 (unErr o)]) ∧ w'.ownsRow w.heap.size 5 1 v' (o.getD []).length (bv (o.getD [])) ∧ Below w.heap.size w w'
theorem parseHex_many (s : ByteArray) (w : World) (h : 16384 < s.size) :
    Calls Tryd.prog 25 #[.string s] w fun e w' => e = .returned (.tuple #[.slice none 0 0, .int .i64 4]) ∧ w = w' := by
  go_enter Tryd.func25, Tryd.ntmps25
  go_wp2
  go_ret2
  exact ⟨rfl, rfl⟩
theorem parseHex_odd (s : ByteArray) (w : World) (h : s.size ≤ 16384) (h2 : s.size % 2 = 1) :
    Calls Tryd.prog 25 #[.string s] w fun e w' => e = .returned (.tuple #[.slice none 0 0, .int .i64 11]) ∧ w = w' := by
  have hx : (((s.size : Int) % 2) != 0) = true := by rw [bne_iff_ne]; omega
  go_enter Tryd.func25, Tryd.ntmps25
  go_wp2
  go_ret2
  exact ⟨rfl, rfl⟩
set_option maxHeartbeats 1600000 in
theorem parseHex_even (s : ByteArray) (w : World) (m : Nat) (h : s.size ≤ 16384) (h2 : 2 * m = s.size) :
    Calls Tryd.prog 25 #[.string s] w (PostP w (unhexN s.data.toList m)) := by
  obtain ⟨i0, hi, hz0, hz1, hz2⟩ := info_parts u8_info
  have hx : (((s.size : Int) % 2) != 0) = false := by rw [bne_eq_false_iff_eq]; omega
  have hb : decide ((16384 : Int) < (s.size : Int)) = false := by simp; omega
  have hq : (s.size : Int) / 2 = (m : Int) := by omega
  have hll : s.data.toList.length = 2 * m := by rw [h2]; rfl
  have H1 := Lib.hid hll; clear hll
  go_enter Tryd.func25, Tryd.ntmps25
  go_wp2_with (at_make; refine wpList_make_own _ rfl _ _ 22 rfl w.heap.size 5 i0 (.int .u8 0) 1 Tryd.underlying22 hi hz0 hz1 _ _ _ m rfl rfl (by omega) (by rw [hz2]; omega) (by unfold maxLen; omega) (Nat.le_refl _) ?_; intro w1 hown1 hg1)
  have hb1 : Below w.heap.size w w1 := (Below.refl _ _).grown hg1 (Nat.le_refl _) (fun _ h => by cases h)
  clear hq hx hb
  go_loopw [4, 5] (fun u i wr => ∃ (k : Nat) (l : List UInt8), k ≤ m ∧ i = .int .i64 (2 * (k : Int)) ∧ Hid (unhexN s.data.toList k = some l) ∧ wr.ownsRow w.heap.size 5 1 u l.length (bv l) ∧ Below w.heap.size w wr)
    (fun _ i _ => 2 * m - (intOf i).toNat)
  case atStart => exact ⟨0, [], Nat.zero_le _, rfl, rfl, hown1, hb1⟩
  case round =>
    obtain ⟨k, l, hk, rfl, hun, hownr, hnx⟩ := hrel
    have hsz := hnx.size
    clear hown1 hg1
    by_cases hlt : k < m
    · obtain ⟨a, ha⟩ : ∃ a, s.data.toList[2 * k]? = some a := ⟨_, List.getElem?_eq_getElem (by rw [H1.out]; omega)⟩
      obtain ⟨b, hb⟩ : ∃ b, s.data.toList[2 * k + 1]? = some b := ⟨_, List.getElem?_eq_getElem (by rw [H1.out]; omega)⟩
      have hst := unhexN_step hun.out ha hb
      have q1 := fun W => index_str s a (2 * (k : Int)) (2 * k) (by omega) ha W
      have q2 := fun W => index_str s b (2 * (k : Int) + 1) (2 * k + 1) (by omega) hb W
      have hn1 := dvN_lt a
      have hn2 := dvN_lt b
      have hor := nibbles a b
      have hlen := unhexN_len hun.out
      clear ha hb
      have H3 := Lib.hid hst; clear hst
      have H4 := Lib.hid hlen; clear hlen
      have H5 := Lib.hid hor; clear hor
      by_cases hda : dvB a = true
      · by_cases hdb : dvB b = true
        · go_wp2_with fail
          refine (digitValue_any a _).mono ?_
          rintro e w2 ⟨rfl, rfl⟩
          go_wp2_with fail
          refine (digitValue_any b _).mono ?_
          rintro e w2 ⟨rfl, rfl⟩
          go_wp2_with (at_builtin; refine wpList_append_any _ rfl _ _ 22 rfl w.heap.size 5 i0 (.int .u8 0) 1 1 Tryd.underlying22 hi hz0 hz1 hz2 rfl (by decide) _ _ _ rfl (hownr.alloc _) (wr.heap.size + 1) _ 1 1 _ rfl (reads_new1 _ _ (nibbles_v a b H5.out)) (bv_oneCell [_]) (by rw [H4.out]; unfold maxLen; omega) (by rw [H4.out]; omega) (by simp; omega) ?_; intro v1 w2 hown2 hg2 _)
          have R : w2.ownsRow w.heap.size 5 1 v1 (l ++ [UInt8.ofNat (16 * dvN a + dvN b)]).length (bv (l ++ [UInt8.ofNat (16 * dvN a + dvN b)])) := by
            rw [bv_append, List.length_append]
            exact hown2
          have hnx2 : Below w.heap.size w w2 := (hnx.alloc (by omega) _).grown hg2 (by simp; omega) (fun g hg => (hownr.lt g hg).1)
          have hun2 : Hid (unhexN s.data.toList (k + 1) = some (l ++ [UInt8.ofNat (16 * dvN a + dvN b)])) := by rw [Hid, H3.out, hda, hdb]; rfl
          clear hownr hown2 hg2 hun
          go_roundw
          case rel => exact ⟨k + 1, _, by omega, by go_num, hun2, R, hnx2⟩
          case measure => simp [intOf]; omega
        · have hnone : unhexN s.data.toList m = none := unhexN_mono (k := k + 1) (by rw [H3.out, hda, Bool.eq_false_iff.2 hdb]; rfl) (by omega)
          have hN := Lib.hid hnone; clear hnone
          have hdb2 : dvB b = false := Bool.eq_false_iff.2 hdb
          clear hdb
          go_wp2_with fail
          refine (digitValue_any a _).mono ?_
          rintro e w2 ⟨rfl, rfl⟩
          go_wp2_with fail
          refine (digitValue_any b _).mono ?_
          rintro e w2 ⟨rfl, rfl⟩
          go_wp2
          go_ret2
          rw [hN.out]
          exact ⟨_, rfl, World.ownsRow_nil _ _ _ _, hnx⟩
      · have hda2 : dvB a = false := Bool.eq_false_iff.2 hda
        have hnone : unhexN s.data.toList m = none := unhexN_mono (k := k + 1) (by rw [H3.out, hda2]; rfl) (by omega)
        have hN := Lib.hid hnone; clear hnone
        clear hda
        go_wp2_with fail
        refine (digitValue_any a _).mono ?_
        rintro e w2 ⟨rfl, rfl⟩
        go_wp2_with fail
        refine (digitValue_any b _).mono ?_
        rintro e w2 ⟨rfl, rfl⟩
        go_wp2
        go_ret2
        rw [hN.out]
        exact ⟨_, rfl, World.ownsRow_nil _ _ _ _, hnx⟩
    · obtain rfl : k = m := by omega
      go_wp2
      go_ret2
      rw [hun.out]
      exact ⟨_, rfl, hownr, hnx⟩

theorem parseHex_any (s : ByteArray) (w : World) :
    Calls Tryd.prog 25 #[.string s] w fun e w' =>
      ∃ v', e = .returned (.tuple #[v', .int .i64 (parseS s.data.toList).2]) ∧
        w'.ownsRow w.heap.size 5 1 v' (parseS s.data.toList).1.length (bv (parseS s.data.toList).1) ∧ Below w.heap.size w w' := by
  have hsz : s.data.toList.length = s.size := rfl
  unfold parseS
  rw [hsz]
  by_cases h : 16384 < s.size
  · rw [if_pos h]
    refine (parseHex_many s w h).mono ?_
    rintro e w' ⟨rfl, rfl⟩
    exact ⟨_, rfl, World.ownsRow_nil _ _ _ _, Below.refl _ _⟩
  · rw [if_neg h]
    by_cases h2 : s.size % 2 = 0
    · rw [if_pos h2]
      refine (parseHex_even s w (s.size / 2) (by omega) (by omega)).mono ?_
      rintro e w' ⟨v', rfl, hown, hb⟩
      generalize unhexN s.data.toList (s.size / 2) = u at *
      cases u with
      | none => exact ⟨v', rfl, hown, hb⟩
      | some l => exact ⟨v', rfl, hown, hb⟩
    · rw [if_neg h2]
      refine (parseHex_odd s w (by omega) (by omega)).mono ?_
      rintro e w' ⟨rfl, rfl⟩
      exact ⟨_, rfl, World.ownsRow_nil _ _ _ _, Below.refl _ _⟩
end Go.Proofs.YtpoppfmlphkakaaDoor
