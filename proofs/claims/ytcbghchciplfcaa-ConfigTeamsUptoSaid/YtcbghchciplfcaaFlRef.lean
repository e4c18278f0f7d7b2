/-
  FLREF: the reference's functions on floors: cell, ValidFloor, Check, Twin.
-/
import Derived.Test.YtcbghchciplfcaaSlRef
namespace Go.Proofs.Ytcbghchciplfcaa
set_option linter.unusedVariables false
set_option linter.unusedSimpArgs false
set_option maxRecDepth 100000
open Go.RowKit

theorem refCell_any (c : UInt8) (w : World) : Calls Try.prog 122 #[.int .u8 (c.toNat : Int)] w fun e w' => e = .returned (.bool (cellB c)) ∧ w = w' := by
  have hc : cellB c = decide ((c.toNat : Int) ≤ 3 ∨ (c.toNat : Int) = 255) := by unfold cellB; congr 1; apply propext; omega
  rw [hc]
  clear hc
  have h0 : (0 : Int) ≤ (c.toNat : Int) := by omega
  generalize (c.toNat : Int) = m at *
  by_cases h1 : m ≤ 3
  · rw [decide_eq_true (.inl h1)]
    have d : decide (m ≤ 3) = true := decide_eq_true h1
    clear h1
    go_enter Try.func122, Try.ntmps122
    go_wp2
    go_ret
    exact ⟨rfl, rfl⟩
  · have d : decide (m ≤ 3) = false := decide_eq_false h1
    by_cases h2 : m = 255
    · rw [decide_eq_true (.inr h2)]
      have d2 : (m == 255) = true := by simpa using h2
      clear h1 h2
      go_enter Try.func122, Try.ntmps122
      go_wp2
      go_ret
      exact ⟨rfl, rfl⟩
    · rw [decide_eq_false (by omega)]
      have d2 : (m == 255) = false := by simpa using h2
      clear h1 h2
      go_enter Try.func122, Try.ntmps122
      go_wp2
      go_ret
      exact ⟨rfl, rfl⟩

set_option maxHeartbeats 1600000 in
theorem validFloor_any (a b : Int) (A : Option Addr) (n c : Nat) (l : List UInt8) (w : World) (hr : Reads w w.heap.size 1 A n (bv l)) (hn : n ≤ 140737488351232) :
    Calls Try.prog 80 #[.agg #[.int .i64 a, .int .i64 b, .slice A n c]] w fun e w' => e = .returned (.bool (floorB a b l)) ∧ Below w.heap.size w w' := by
  have hlen : l.length = n := by have := hr.1; simpa using this
  have hb : Below w.heap.size w (w.alloc (.cells #[.int .i64 a, .int .i64 b, .slice A n c] 30)) := (Below.refl _ _).alloc (Nat.le_refl _) _
  have B := Lib.hid hb
  have V := Lib.hid (fun W => validSides_any a b W)
  have C := Lib.hid (fun (x : UInt8) (t : Bool) (h : cellB x = t) W => h ▸ refCell_any x W)
  cases hg : gridB a b
  · rw [hg] at V
    rw [show floorB a b l = false from by unfold floorB; rw [hg]; rfl]
    clear hg hr hlen hb
    go_enter Try.func80, Try.ntmps80
    go_wp2_with fail
    refine (V.out _).mono ?_
    rintro e x ⟨rfl, rfl⟩
    go_wp2
    go_ret
    exact ⟨rfl, B.out⟩
  · obtain ⟨⟨a2, a8⟩, b2, b8⟩ := (gridB_iff _ _).1 hg
    obtain ⟨s1, s2⟩ := size_bd ⟨a2, a8⟩ ⟨b2, b8⟩
    rw [hg] at V
    by_cases he : (n : Int) = a * b
    · have e1 : ((n : Int) != a * b) = false := by simp [he]
      have hz : floorB a b l = l.all cellB := by unfold floorB; rw [hg, hlen, decide_eq_true he]; rfl
      rw [hz]
      have HR := Lib.hid (hr.below hb); have HL := Lib.hid hlen
      have hn64 : n ≤ 64 := by omega
      obtain ⟨R, hR⟩ : ∃ R : Value, R = .bool (l.all cellB) := ⟨_, rfl⟩
      rw [← hR]
      have HRR := Lib.hid hR
      clear hR hz hg hr hlen hb he
      go_enter Try.func80, Try.ntmps80
      go_wp2_with fail
      refine (V.out _).mono ?_
      rintro e x ⟨rfl, rfl⟩
      go_wp2
      go_loop [3] (fun i => ∃ k : Nat, k ≤ n ∧ i = .int .i64 (k : Int) ∧ Hid ((l.take k).all cellB = true)) (fun i => n - (intOf i).toNat)
      case atStart => exact ⟨0, Nat.zero_le _, rfl, Lib.hid rfl⟩
      case round =>
        obtain ⟨k, hk, rfl, hall⟩ := hrel
        by_cases hlt : k < n
        · obtain ⟨ad, x, rfl, had, hx, hcx⟩ := cells_at HR.out hlt
          have HX := Lib.hid hx
          clear hx
          cases hh : cellB x
          · have HH := Lib.hid hh
            clear hh
            go_wp2_with fail
            refine (C.out x false HH.out _).mono ?_
            rintro e w2 ⟨rfl, rfl⟩
            go_wp2
            go_ret
            have hz : l.all cellB = false := allc_not HX.out HH.out
            exact ⟨by rw [HRR.out, hz]; rfl, B.out⟩
          · have HH := Lib.hid hh
            clear hh
            go_wp2_with fail
            refine (C.out x true HH.out _).mono ?_
            rintro e w2 ⟨rfl, rfl⟩
            go_wp2
            go_round
            case rel => exact ⟨k + 1, by omega, by go_num, Lib.hid (allc_take hall.out HX.out HH.out)⟩
            case measure => simp [intOf]; omega
        · obtain rfl : k = n := by omega
          have hz : l.all cellB = true := by
            have := hall.out
            rwa [List.take_of_length_le (by rw [HL.out]; exact Nat.le_refl _)] at this
          have HZ := Lib.hid hz
          clear hz
          go_wp2
          go_ret
          exact ⟨by rw [HRR.out, HZ.out]; rfl, B.out⟩
    · have e1 : ((n : Int) != a * b) = true := by simpa using he
      rw [show floorB a b l = false from by unfold floorB; rw [hg, hlen, decide_eq_false he]; rfl]
      clear hg hr hlen hb he
      go_enter Try.func80, Try.ntmps80
      go_wp2_with fail
      refine (V.out _).mono ?_
      rintro e x ⟨rfl, rfl⟩
      go_wp2
      go_ret
      exact ⟨rfl, B.out⟩

set_option maxHeartbeats 1600000 in
theorem twin_any (a b : Int) (A : Option Addr) (n c : Nat) (l : List UInt8) (w : World) (hr : Reads w w.heap.size 1 A n (bv l)) (hn : n ≤ 140737488351232) :
    Calls Try.prog 82 #[.agg #[.int .i64 a, .int .i64 b, .slice A n c]] w fun e w' => ∃ A' c', e = .returned (.agg #[.int .i64 a, .int .i64 b, .slice A' n c']) ∧ Hid (w'.ownsRow w.heap.size 5 1 (.slice A' n c') n (bv l)) ∧ Below w.heap.size w w' := by
  obtain ⟨i0, hi, hz0, hz1, hz2⟩ := info_parts u8_info'
  have hb1 : Below w.heap.size w ((w.alloc (.cells #[.int .i64 a, .int .i64 b, .slice A n c] 30)).alloc (.cells #[.int .i64 0, .int .i64 0, .slice none 0 0] 30)) := ((Below.refl _ _).alloc (Nat.le_refl _) _).alloc (by simp) _
  have k1 : Blk ((w.alloc (.cells #[.int .i64 a, .int .i64 b, .slice A n c] 30)).alloc (.cells #[.int .i64 0, .int .i64 0, .slice none 0 0] 30)) w.heap.size 30 (b3 a b (.slice A n c)) := (Blk.new w 30 (b3 a b (.slice A n c))).alloc _
  have k2 : Blk ((w.alloc (.cells #[.int .i64 a, .int .i64 b, .slice A n c] 30)).alloc (.cells #[.int .i64 0, .int .i64 0, .slice none 0 0] 30)) (w.heap.size + 1) 30 (b3 0 0 (.slice none 0 0)) := by
    have := Blk.new (w.alloc (.cells #[.int .i64 a, .int .i64 b, .slice A n c] 30)) 30 (b3 0 0 (.slice none 0 0))
    simpa [b3] using this
  have hr1 := hr.below hb1
  have hs1 : ((w.alloc (.cells #[.int .i64 a, .int .i64 b, .slice A n c] 30)).alloc (.cells #[.int .i64 0, .int .i64 0, .slice none 0 0] 30)).heap.size = w.heap.size + 1 + 1 := by simp
  have HS := Lib.hid hs1
  have K1 := Lib.hid k1; have K2 := Lib.hid k2; have B1 := Lib.hid hb1; have R1 := Lib.hid hr1
  clear k1 k2 hb1 hr1 hr hs1
  go_enter Try.func82, Try.ntmps82
  go_upto_region 1 with fail
  generalize (w.alloc _).alloc _ = W at *
  have c2 := K1.out.cellv 2 (v := .slice A n c) rfl
  go_wp2_with (at_builtin; refine wpList_append_any _ rfl _ _ 28 rfl W.heap.size 5 i0 (.int .u8 0) 1 1 Try.underlying28 hi hz0 hz1 hz2 rfl (by decide) _ _ _ rfl (show W.ownsRow W.heap.size 5 1 (.slice none 0 0) 0 [] from ⟨rfl, .inl ⟨rfl, rfl⟩⟩) w.heap.size _ _ _ _ rfl R1.out (bv_oneCell _) (by unfold maxLen; omega) (by omega) (Nat.le_refl _) ?_; intro v1 w1 hown1 hg0 _; have hg1 : W.grownBy w1 none := hg0; rw [show (0 + n = n) from by omega, List.nil_append] at hown1; obtain ⟨A1, c1, rfl, _, _, _⟩ := own_form hown1; have hk1 := K1.out.grown hg1 (by simp); have hk2 := K2.out.grown hg1 (by simp); have hb2 := B1.out.grown hg1 (by rw [HS.out]; omega) (fun g h => by cases h); have KA := Lib.hid hk1; have KB := Lib.hid hk2; have B2 := Lib.hid hb2; have HO := Lib.hid hown1; have d0 := hk1.cellv 0 (v := .int .i64 a) rfl; have d1 := hk1.cellv 1 (v := .int .i64 b) rfl; have d2 := hk1.cellv 2 (v := .slice A n c) rfl; have f2 := hk1.frozen 2; have e0 := hk2.frozen 0; have e1 := hk2.frozen 1; have e2 := hk2.frozen 2; have g0 := hk2.cellv 0 (v := .int .i64 0) rfl; have g1 := hk2.cellv 1 (v := .int .i64 0) rfl; have g2 := hk2.cellv 2 (v := .slice none 0 0) rfl; clear hk1 hk2 hb2 hown1 hg1 hg0 c2)

  refine bodyPost_ret (v := .agg (b3 a b (.slice A1 n c1))) ?_ rfl ?_
  · exact results_cell_row rfl _ _ (w.heap.size + 1) 30 _ (0, 0) _ rfl (f3_three (KB.out.far (by simp) _)) Try.underlying30 rfl (f3_info _ _ _)
  · refine ⟨_, _, rfl, Lib.hid ?_, ?_⟩
    · refine own_more (own_far (own_far (own_far (own_far HO.out ?_ _) ?_ _) ?_ _) ?_ _) (by rw [HS.out]; omega)
      all_goals (rw [HS.out]; simp; try omega)
    · exact (((B2.out.setCell (Nat.le_refl _) _).setCell (by simp) _).setCell (by simp) _).setCell (by simp) _
end Go.Proofs.Ytcbghchciplfcaa
