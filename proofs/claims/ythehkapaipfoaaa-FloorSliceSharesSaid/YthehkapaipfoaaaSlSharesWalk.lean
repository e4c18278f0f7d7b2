/-
  FLOORSLICESHARES: the walk.
-/
import Derived.Test.YthehkapaipfoaaaSlRef
import Derived.Test.YthehkapaipfoaaaSlMath
namespace Go.Proofs.Ythehkapaipfoaaa.floorSliceShares
set_option linter.unusedVariables false
set_option linter.unusedSimpArgs false
set_option maxRecDepth 100000
open Go.RowKit

set_option maxHeartbeats 1600000 in
theorem shares_bad (A : Option Addr) (len c : Nat) (l : List UInt8) (w0 : World) (hr : Reads w0 w0.heap.size 1 A len (bv l)) (hn : len ≤ 140737488351232) (hv : slicesB l = false) :
    Calls Try.prog 18 #[.slice A len c] w0 fun e w' => e = .returned (.bool true) ∧ Below w0.heap.size w0 w' := by
  have V := Lib.hid (fun W (hb : Below w0.heap.size w0 W) => validSlices_any A len c l W ((hr.below hb).more hb.size) hn)
  have O := Lib.hid (fun W (hb : Below w0.heap.size w0 W) => sliceOwner_any A len c 0 l W ((hr.below hb).more hb.size) hn (by omega))
  have L := Lib.hid (fun W (hb : Below w0.heap.size w0 W) => sliceLeft_any A len c 0 l (-1) W ((hr.below hb).more hb.size) hn (by omega))
  have D := Lib.hid (fun W (hb : Below w0.heap.size w0 W) => sliceWait_any A len c 0 l (-1) W ((hr.below hb).more hb.size) hn (by omega))
  have K := Lib.hid (fun W (hb : Below w0.heap.size w0 W) => checkSlices_any A len c l W ((hr.below hb).more hb.size) hn)
  have ha : askedS l (-1) = 60 := by unfold askedS; rw [hv]; rfl
  rw [hv] at V K
  rw [show sOwnS l 0 = (0, 60) from by unfold sOwnS; rw [hv]; rfl] at O
  rw [show leftS l 0 (-1) = (0, 60) from by unfold leftS; rw [ha]; rfl] at L
  rw [show waitS l 0 (-1) = (0, 60) from by unfold waitS; rw [ha]; rfl] at D
  simp only [Bool.false_eq_true, if_false] at K
  clear hv hr ha
  go_enter Try.func18, Try.ntmps18
  go_wp2_with fail
  refine (falive_true _).mono ?_
  rintro e x ⟨rfl, hb⟩
  have B := Lib.hid hb
  clear hb
  go_wp2_with fail
  refine (V.out _ B.out).mono ?_
  rintro e x ⟨rfl, rfl⟩
  go_wp2_with fail
  refine (O.out _ B.out).mono ?_
  rintro e x ⟨rfl, rfl⟩
  go_wp2_with fail
  refine (L.out _ B.out).mono ?_
  rintro e x ⟨rfl, hb⟩
  replace B := Lib.hid (B.out.trans (hb.mono B.out.size))
  clear hb
  go_wp2_with fail
  refine (D.out _ B.out).mono ?_
  rintro e x ⟨rfl, hb⟩
  replace B := Lib.hid (B.out.trans (hb.mono B.out.size))
  clear hb
  go_wp2_with fail
  refine (K.out _ B.out).mono ?_
  rintro e x ⟨rfl, rfl⟩
  go_wp2
  go_ret
  exact ⟨rfl, B.out⟩

set_option maxHeartbeats 6400000 in
theorem shares_ok (A : Option Addr) (len c : Nat) (l : List UInt8) (w0 : World) (hr : Reads w0 w0.heap.size 1 A len (bv l)) (hn : len ≤ 140737488351232) (hv : slicesB l = true) :
    Calls Try.prog 18 #[.slice A len c] w0 fun e w' => e = .returned (.bool true) ∧ Below w0.heap.size w0 w' := by
  have hlen : l.length = len := by have := hr.1; simpa using this
  obtain ⟨g1, g2⟩ := slicesB_len hv
  rw [hlen] at g1 g2
  have V := Lib.hid (fun W (hb : Below w0.heap.size w0 W) => validSlices_any A len c l W ((hr.below hb).more hb.size) hn)
  have O := Lib.hid (fun (k : Nat) (hk : k < len) W (hb : Below w0.heap.size w0 W) => sliceOwner_any A len c k l W ((hr.below hb).more hb.size) hn (by omega))
  have L := Lib.hid (fun (k : Nat) (hk : k < len) (t : Int) W (hb : Below w0.heap.size w0 W) => sliceLeft_any A len c k l t W ((hr.below hb).more hb.size) hn (by omega))
  have D := Lib.hid (fun (k : Nat) (hk : k < len) (t : Int) W (hb : Below w0.heap.size w0 W) => sliceWait_any A len c k l t W ((hr.below hb).more hb.size) hn (by omega))
  have K := Lib.hid (fun W (hb : Below w0.heap.size w0 W) => checkSlices_any A len c l W ((hr.below hb).more hb.size) hn)
  have HL : Hid (∀ (k : Nat) (t : Int), 0 ≤ t ∧ t < 3 → leftS l k t = (((leftN l k t : Nat) : Int), 0)) := Lib.hid (fun k t ht => left_ok hv ht)
  have HWN : Hid (∀ (k : Nat) (t : Int), 0 ≤ t ∧ t < 3 → waitN l k t = l.length → waitS l k t = (0, 6)) := Lib.hid (fun k t ht h => wait_none hv ht h)
  have HWS : Hid (∀ (k : Nat) (t : Int), 0 ≤ t ∧ t < 3 → waitN l k t ≠ l.length → waitS l k t = (((waitN l k t : Nat) : Int), 0)) := Lib.hid (fun k t ht h => wait_some hv ht h)
  have HO : Hid (∀ (k : Nat), sOwnS l k = (ten (atS l k 0), 0)) := Lib.hid (fun k => own_at (k := 0) hv)
  have HTEN : Hid (l.all tenB = true) := Lib.hid (by unfold slicesB at hv; simp only [Bool.and_eq_true] at hv; exact hv.2)
  rw [hv] at V K
  simp only [if_true] at K
  have HR := Lib.hid hr; have HLEN := Lib.hid hlen
  clear hv hr hlen
  go_enter Try.func18, Try.ntmps18
  go_wp2_with fail
  refine (falive_true _).mono ?_
  rintro e x ⟨rfl, hb⟩
  have B := Lib.hid hb
  clear hb
  go_wp2_with fail
  refine (V.out _ B.out).mono ?_
  rintro e x ⟨rfl, rfl⟩
  go_wp2
  clear V
  go_loopw [10, 11] (fun z i wr => ∃ k : Nat, k ≤ len ∧ i = .int .i64 (k : Int) ∧ z = .int .i64 (k : Int) ∧ Hid (Below w0.heap.size w0 wr))
    (fun _ i _ => len - (intOf i).toNat)
  case atStart => exact ⟨0, Nat.zero_le _, rfl, rfl, B⟩
  case round =>
    obtain ⟨k, hk, rfl, rfl, hB⟩ := hrel
    clear B
    have B := hB
    clear hB
    by_cases hlt : k < len
    · have HX0 := Lib.hid (cells_at (HR.out.below B.out) hlt)
      obtain ⟨ad, x, hA, had, hx, hcx⟩ := HX0.out
      have ha := at_zero (l := l) (k := k) (by rw [HLEN.out]; exact hlt) hx
      have hx3 : x.toNat ≤ 3 := by
        have := (List.all_eq_true.1 HTEN.out) x (List.mem_of_getElem? hx)
        simpa [tenB] using this
      have O1 := Lib.hid (O.out k hlt)
      rw [HO.out k, ha] at O1
      have HLP : Hid (∀ t : Int, (0 < leftN l k t) ↔ ten x = t) := Lib.hid (fun t => by
        have := left_pos (l := l) (tick := k) (t := t) (by rw [HLEN.out]; exact g1)
        rwa [ha] at this)
      have HWZ : Hid (∀ t : Int, (waitN l k t = 0) ↔ ten x = t) := Lib.hid (fun t => by
        have := wait_zero (l := l) (tick := k) (t := t) (by rw [HLEN.out]; exact g1)
        rwa [ha] at this)
      clear HX0 hx ha had
      subst hA
      unfold ten at O1 HLP HWZ
      obtain ⟨m, hm⟩ : ∃ m : Int, m = (x.toNat : Int) := ⟨_, rfl⟩
      rw [← hm] at O1 hcx HLP HWZ
      have m0 : 0 ≤ m := by omega
      have m3 : m ≤ 3 := by omega
      clear hm hx3
      have k0 : (0 : Int) ≤ (k : Int) := by omega
      have k1 : (k : Int) < (len : Int) := by omega
      have IT := Lib.hid (fun W => is_true (m - 1) W)
      obtain ⟨z, hz⟩ : ∃ z : Int, z = (k : Int) + (if m - 1 < 0 then 1 else 0) := ⟨_, rfl⟩
      have hzz : (m - 1 == -1) = decide (m - 1 < 0) := by
        by_cases h : m - 1 < 0
        · rw [decide_eq_true h]; simp; omega
        · rw [decide_eq_false h]; simp; omega
      by_cases hneg : m - 1 < 0
      all_goals
        simp only [hneg, if_true, if_false, decide_true, decide_false] at hz hzz
        have HZ := Lib.hid hz
        have z0 : 0 ≤ z := by omega
        have z9 : z ≤ 16 := by omega
        have HNEG := Lib.hid hneg
        clear hneg hz
        go_wp2_with fail
        refine (O1.out _ B.out).mono ?_
        rintro e x ⟨rfl, rfl⟩
        go_wp2_with fail
        refine (IT.out _).mono ?_
        rintro e x ⟨rfl, rfl⟩
        go_wp2
        go_loopw [10, 14] (fun y j wr => ∃ (i : Nat) (q : Int), i ≤ 3 ∧ j = .int .i64 (i : Int) ∧ y = .int .i64 q ∧ Hid (q = (k : Int) + (if m - 1 < (i : Int) then 1 else 0)) ∧ Hid (Below w0.heap.size w0 wr))
          (fun _ j _ => 3 - (intOf j).toNat)
        case atStart =>
          refine ⟨0, _, by omega, rfl, rfl, Lib.hid ?_, B⟩
          have := HZ.out
          have := HNEG.out
          split <;> omega
        case round =>
          obtain ⟨i, q, hi, rfl, rfl, hq, hB⟩ := hrel
          clear B
          have B := hB
          clear hB
          by_cases hi3 : i < 3
          · have L1 := Lib.hid (fun W hb => L.out k hlt (i : Int) W hb)
            have D1 := Lib.hid (fun W hb => D.out k hlt (i : Int) W hb)
            have hlp := HLP.out (i : Int); have hwz := HWZ.out (i : Int)
            rw [HL.out k (i : Int) ⟨by omega, by omega⟩] at L1
            have hws := HWS.out k (i : Int) ⟨by omega, by omega⟩
            have hwn := HWN.out k (i : Int) ⟨by omega, by omega⟩
            generalize leftN l k (i : Int) = N at L1 hlp
            have hq' := hq.out
            by_cases he : m - 1 = (i : Int)
            · have hw0 : waitN l k (i : Int) = 0 := hwz.2 he
              have hN := hlp.2 he
              rw [hws (by rw [hw0, HLEN.out]; omega), hw0] at D1
              have hqk : q = (k : Int) := by rw [hq', if_neg (by omega)]; omega
              have hq1 : q + 1 = (k : Int) + (if m - 1 < ((i + 1 : Nat) : Int) then 1 else 0) := by rw [hqk, if_pos (by omega)]
              have c1 : decide ((0 : Int) < (N : Int)) = true := decide_eq_true (by omega)
              have c1' : 0 < N := hN
              have c2 : (m - 1 == (i : Int)) = true := by simpa using he
              have HQ := Lib.hid hq1
              clear hq hq' hq1 hlp hwz hws hwn hw0 he
              have q0 : 0 ≤ q := by omega
              have q9 : q ≤ 16 := by omega
              clear hqk
              go_wp2_with fail
              refine (L1.out _ B.out).mono ?_
              rintro e x ⟨rfl, hb⟩
              replace B := Lib.hid (B.out.trans (hb.mono B.out.size))
              clear hb
              go_wp2_with fail
              refine (D1.out _ B.out).mono ?_
              rintro e x ⟨rfl, hb⟩
              replace B := Lib.hid (B.out.trans (hb.mono B.out.size))
              clear hb
              go_wp2
              go_roundw
              case rel => exact ⟨i + 1, q + 1, by omega, by go_num, rfl, HQ, B⟩
              case measure => simp [intOf]; omega
            · have hw0 : waitN l k (i : Int) ≠ 0 := fun h => he (hwz.1 h)
              obtain rfl : N = 0 := by
                rcases Nat.eq_zero_or_pos N with h | h
                · exact h
                · exact absurd (hlp.1 h) he
              have hq1 : q = (k : Int) + (if m - 1 < ((i + 1 : Nat) : Int) then 1 else 0) := by
                rw [hq']
                by_cases h : m - 1 < (i : Int)
                · rw [if_pos h, if_pos (by omega)]
                · rw [if_neg h, if_neg (by omega)]
              have c2 : (m - 1 == (i : Int)) = false := by simpa using he
              have HQ := Lib.hid hq1
              by_cases hM : waitN l k (i : Int) = l.length
              · rw [hwn hM] at D1
                clear hq hq' hq1 hlp hwz hws hwn hw0 he hM
                go_wp2_with fail
                refine (L1.out _ B.out).mono ?_
                rintro e x ⟨rfl, hb⟩
                replace B := Lib.hid (B.out.trans (hb.mono B.out.size))
                clear hb
                go_wp2_with fail
                refine (D1.out _ B.out).mono ?_
                rintro e x ⟨rfl, hb⟩
                replace B := Lib.hid (B.out.trans (hb.mono B.out.size))
                clear hb
                go_wp2
                go_roundw
                case rel => exact ⟨i + 1, q, by omega, by go_num, rfl, HQ, B⟩
                case measure => simp [intOf]; omega
              · rw [hws hM] at D1
                generalize waitN l k (i : Int) = M at D1 hw0
                have c3 : ((M : Int) == 0) = false := by simpa using hw0
                have c4 : (M == 0) = false := by simpa using hw0
                clear hq hq' hq1 hlp hwz hws hwn he hM
                go_wp2_with fail
                refine (L1.out _ B.out).mono ?_
                rintro e x ⟨rfl, hb⟩
                replace B := Lib.hid (B.out.trans (hb.mono B.out.size))
                clear hb
                go_wp2_with fail
                refine (D1.out _ B.out).mono ?_
                rintro e x ⟨rfl, hb⟩
                replace B := Lib.hid (B.out.trans (hb.mono B.out.size))
                clear hb
                go_wp2
                go_roundw
                case rel => exact ⟨i + 1, q, by omega, by go_num, rfl, HQ, B⟩
                case measure => simp [intOf]; omega
          · obtain rfl : i = 3 := by omega
            have hqk : q = (k : Int) + 1 := by have := hq.out; rw [if_pos (by omega)] at this; exact this
            subst hqk
            clear hq
            go_wp2
            go_roundw
            case rel => exact ⟨k + 1, by omega, by go_num, by go_num, B⟩
            case measure => simp [intOf]; omega
    · obtain rfl : k = len := by omega
      go_wp2_with fail
      refine (K.out _ B.out).mono ?_
      rintro e x ⟨rfl, rfl⟩
      go_wp2
      go_ret
      exact ⟨rfl, B.out⟩

/-- The walk: true, whatever came in. -/
theorem floorSliceShares_walk (A : Option Addr) (n c : Nat) (l : List UInt8) (w : World) (hr : Reads w w.heap.size 1 A n (bv l)) (hnc : n ≤ c) (hc : c ≤ 140737488351232) :
    Calls Try.prog 18 #[.slice A n c] w fun e w' => e = .returned (.bool true) ∧ Below w.heap.size w w' := by
  cases hv : slicesB l
  · exact shares_bad A n c l w hr (by omega) hv
  · exact shares_ok A n c l w hr (by omega) hv
end Go.Proofs.Ythehkapaipfoaaa.floorSliceShares
