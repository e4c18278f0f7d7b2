/-
  FLOORPARTITION: the walk.
-/
import Derived.Test.YthehkapaipfoaaaPaMath
import Derived.BigQuiet
namespace Go.Proofs.Ythehkapaipfoaaa.floorPartition
set_option linter.unusedVariables false
set_option linter.unusedSimpArgs false
set_option maxRecDepth 100000
open Go.RowKit

set_option maxHeartbeats 3200000 in
theorem part_bad (a b : Int) (A : Option Addr) (n c : Nat) (l : List UInt8) (w : World) (hr : Reads w w.heap.size 1 A n (bv l)) (hn : n ≤ 140737488351232) (hv : floorB a b l = false) :
    Calls Try.prog 12 #[.agg #[.int .i64 a, .int .i64 b, .slice A n c]] w fun e w' => e = .returned (.bool true) ∧ Below w.heap.size w w' := by
  have FB := Lib.hid (fbox w a b (.slice A n c))
  have RR := Lib.hid (fun W (hb : Below w.heap.size w W) => (hr.below hb).more hb.size)
  have V := Lib.hid (fun W (hb : Below w.heap.size w W) => validFloor_any a b A n c l W (RR.out W hb) hn)
  have O := Lib.hid (fun W (hb : Below w.heap.size w W) => owner_any a b A n c l 0 W (RR.out W hb) hn)
  have P := Lib.hid (fun W (hb : Below w.heap.size w W) => private_any a b A n c l 0 W (RR.out W hb) hn)
  have S := Lib.hid (fun W (hb : Below w.heap.size w W) => aisles_any a b A n c l W (RR.out W hb) hn)
  have D := Lib.hid (fun W (hb : Below w.heap.size w W) => draw_any a b A n c l W (RR.out W hb) hn)
  have K := Lib.hid (fun W (hb : Below w.heap.size w W) => check_any a b A n c l W (RR.out W hb) hn)
  rw [hv] at V K
  rw [show ownS a b l 0 = (0, 50) from by unfold ownS; rw [hv]; rfl] at O
  rw [show privS a b l 0 = ([], 50) from by unfold privS; rw [hv]; rfl] at P
  rw [show aislS a b l = ([], 50) from by unfold aislS; rw [hv]; rfl] at S
  rw [show drawS a b l = ([], 50) from by unfold drawS; rw [hv]; rfl] at D
  simp only [Bool.false_eq_true, if_false] at K
  clear hv hr
  go_enter Try.func12, Try.ntmps12
  go_wp2_with fail
  refine (falive_true _).mono ?_
  rintro e x ⟨rfl, hb⟩
  replace FB := Lib.hid (FB.out.next hb)
  clear hb
  have c0 := FB.out.kf.cellv 0 (v := .int .i64 a) rfl
  have c1 := FB.out.kf.cellv 1 (v := .int .i64 b) rfl
  have c2 := FB.out.kf.cellv 2 (v := .slice A n c) rfl
  go_wp2_with fail
  refine (V.out _ FB.out.bel).mono ?_
  rintro e x ⟨rfl, hb⟩
  replace FB := Lib.hid (FB.out.next hb)
  clear hb c0 c1 c2
  have c0 := FB.out.kf.cellv 0 (v := .int .i64 a) rfl
  have c1 := FB.out.kf.cellv 1 (v := .int .i64 b) rfl
  have c2 := FB.out.kf.cellv 2 (v := .slice A n c) rfl
  go_wp2_with fail
  refine (O.out _ FB.out.bel).mono ?_
  rintro e x ⟨rfl, hb⟩
  replace FB := Lib.hid (FB.out.next hb)
  clear hb c0 c1 c2
  have c0 := FB.out.kf.cellv 0 (v := .int .i64 a) rfl
  have c1 := FB.out.kf.cellv 1 (v := .int .i64 b) rfl
  have c2 := FB.out.kf.cellv 2 (v := .slice A n c) rfl
  go_wp2_with fail
  refine (P.out _ FB.out.bel).mono ?_
  rintro e x ⟨v, rfl, hown, hb⟩
  obtain ⟨A', c', rfl, _, _, _⟩ := own_form hown
  replace FB := Lib.hid (FB.out.next hb)
  clear hb hown c0 c1 c2
  have c0 := FB.out.kf.cellv 0 (v := .int .i64 a) rfl
  have c1 := FB.out.kf.cellv 1 (v := .int .i64 b) rfl
  have c2 := FB.out.kf.cellv 2 (v := .slice A n c) rfl
  go_wp2_with fail
  refine (S.out _ FB.out.bel).mono ?_
  rintro e x ⟨v, rfl, hown, hb⟩
  obtain ⟨A', c', rfl, _, _, _⟩ := own_form hown
  replace FB := Lib.hid (FB.out.next hb)
  clear hb hown c0 c1 c2
  have c0 := FB.out.kf.cellv 0 (v := .int .i64 a) rfl
  have c1 := FB.out.kf.cellv 1 (v := .int .i64 b) rfl
  have c2 := FB.out.kf.cellv 2 (v := .slice A n c) rfl
  go_wp2_with fail
  refine (D.out _ FB.out.bel).mono ?_
  rintro e x ⟨rfl, hb⟩
  replace FB := Lib.hid (FB.out.next hb)
  clear hb c0 c1 c2
  have c0 := FB.out.kf.cellv 0 (v := .int .i64 a) rfl
  have c1 := FB.out.kf.cellv 1 (v := .int .i64 b) rfl
  have c2 := FB.out.kf.cellv 2 (v := .slice A n c) rfl
  go_wp2_with fail
  refine (K.out _ FB.out.bel).mono ?_
  rintro e x ⟨rfl, hb⟩
  replace FB := Lib.hid (FB.out.next hb)
  clear hb c0 c1 c2
  have c0 := FB.out.kf.cellv 0 (v := .int .i64 a) rfl
  have c1 := FB.out.kf.cellv 1 (v := .int .i64 b) rfl
  have c2 := FB.out.kf.cellv 2 (v := .slice A n c) rfl
  go_wp2
  go_ret
  exact ⟨rfl, FB.out.bel⟩

set_option maxHeartbeats 12800000 in
theorem part_ok (a b : Int) (A : Option Addr) (n c : Nat) (l : List UInt8) (w : World) (hr : Reads w w.heap.size 1 A n (bv l)) (hn : n ≤ 140737488351232) (hv : floorB a b l = true) :
    Calls Try.prog 12 #[.agg #[.int .i64 a, .int .i64 b, .slice A n c]] w fun e w' => e = .returned (.bool true) ∧ Below w.heap.size w w' := by
  obtain ⟨i0, hi, hz0, hz1, hz2⟩ := info_parts int_info
  have hlen : l.length = n := by have := hr.1; simpa using this
  have hll := floorB_len hv
  obtain ⟨_, _, hall⟩ := floorB_yes hv
  have FB := Lib.hid (fbox w a b (.slice A n c))
  have RR := Lib.hid (fun W (hb : Below w.heap.size w W) => (hr.below hb).more hb.size)
  have RW := Lib.hid (fun W (hb : Below w.heap.size w W) => hr.below hb)
  have V := Lib.hid (fun W (hb : Below w.heap.size w W) => validFloor_any a b A n c l W (RR.out W hb) hn)
  have K := Lib.hid (fun W (hb : Below w.heap.size w W) => check_any a b A n c l W (RR.out W hb) hn)
  have P := Lib.hid (fun (t : Int) W (hb : Below w.heap.size w W) => private_any a b A n c l t W (RR.out W hb) hn)
  have S := Lib.hid (fun W (hb : Below w.heap.size w W) => aisles_any a b A n c l W (RR.out W hb) hn)
  have O := Lib.hid (fun (p : Int) W (hb : Below w.heap.size w W) => owner_any a b A n c l p W (RR.out W hb) hn)
  have HP : Hid (∀ t : Int, 0 ≤ t → t < 3 → privS a b l t = (placesS l t, 0)) := Lib.hid (fun t h0 h3 => by unfold privS; rw [if_pos hv, if_pos ⟨h0, h3⟩])
  have HP3 : Hid (privS a b l 3 = ([], 2)) := Lib.hid (by unfold privS; rw [if_pos hv, if_neg (by omega)])
  have HO : Hid (∀ j, j < n → ownS a b l (j : Int) = (ownerS (l.getD j 0), 0)) := Lib.hid (fun j hj => by unfold ownS; rw [if_pos hv, if_pos ⟨by omega, by omega⟩]; simp)
  have HC : Hid (∀ j, j < n → cellB (l.getD j 0) = true) := Lib.hid (fun j hj => by
    have hx : l[j]? = some l[j] := List.getElem?_eq_getElem (by omega)
    have := List.all_eq_true.1 hall l[j] (List.getElem_mem _)
    rwa [show l.getD j 0 = l[j] from by simp [List.getD, hx]])
  have HOB : Hid (∀ j, j < n → -2 ≤ ownerS (l.getD j 0) ∧ ownerS (l.getD j 0) ≤ 2) := Lib.hid (fun j hj => owner_bd (HC.out j hj))
  rw [hv] at V K
  rw [show aislS a b l = (placesS l (-2), 0) from by unfold aislS; rw [if_pos hv]] at S
  simp only [if_true] at K
  have hmk := fun W : World => run_make (P := Try.prog) W 36 3 i0 (.int .i64 0) Try.underlying36 hi hz0 .i64 .i64 (n : Int) (n : Int) (by omega) (by omega) (by rw [hz2]; omega) (by omega)
  rw [hz1] at hmk
  simp only [Int.toNat_natCast, Nat.mul_one, Value.cells] at hmk
  have MK := Lib.hid hmk
  have HLEN := Lib.hid hlen
  have n4 : 4 ≤ n := by omega
  have n64 : n ≤ 64 := by omega
  clear hv hr hi hz0 hz1 hz2 hmk hlen hll hall
  go_enter Try.func12, Try.ntmps12
  go_wp2_with fail
  refine (falive_true _).mono ?_
  rintro e x ⟨rfl, hb⟩
  replace FB := Lib.hid (FB.out.next hb)
  clear hb
  have c0 := FB.out.kf.cellv 0 (v := .int .i64 a) rfl
  have c1 := FB.out.kf.cellv 1 (v := .int .i64 b) rfl
  have c2 := FB.out.kf.cellv 2 (v := .slice A n c) rfl
  go_wp2_with fail
  refine (V.out _ FB.out.bel).mono ?_
  rintro e x ⟨rfl, hb⟩
  replace FB := Lib.hid (FB.out.next hb)
  clear hb c0 c1 c2
  have c0 := FB.out.kf.cellv 0 (v := .int .i64 a) rfl
  have c1 := FB.out.kf.cellv 1 (v := .int .i64 b) rfl
  have c2 := FB.out.kf.cellv 2 (v := .slice A n c) rfl
  go_wp2_with fail
  refine (K.out _ FB.out.bel).mono ?_
  rintro e x ⟨rfl, hb⟩
  replace FB := Lib.hid (FB.out.next hb)
  clear hb c0 c1 c2
  have c0 := FB.out.kf.cellv 0 (v := .int .i64 a) rfl
  have c1 := FB.out.kf.cellv 1 (v := .int .i64 b) rfl
  have c2 := FB.out.kf.cellv 2 (v := .slice A n c) rfl
  have hmk := MK.out
  have PA := Lib.hid (paW_made FB.out (RW.out _ FB.out.bel) (by omega))
  go_upto_region 11 with fail
  clear hmk
  generalize World.alloc _ _ = X at PA ⊢
  generalize x.heap.size = go at PA ⊢
  clear c0 c1 c2 FB
  go_wp2
  go_loopw [13] (fun i wr => ∃ (k : Nat) (f : Nat → Int), k ≤ n ∧ i = .int .i64 (k : Int) ∧ Hid (∀ j, j < k → f j = -1) ∧ Hid (PaW w wr a b A n c l go f))
    (fun i _ => n - (intOf i).toNat)
  case atStart => exact ⟨0, _, Nat.zero_le _, rfl, Lib.hid (fun j hj => absurd hj (by omega)), PA⟩
  case round =>
    obtain ⟨k, f, hk, rfl, hf, hPA⟩ := hrel
    clear PA
    have PA := hPA
    clear hPA
    by_cases hlt : k < n
    · have hco := PA.out.cell hlt
      have hfz := PA.out.frozen k
      have HS := Lib.hid (PA.out.set k (-1))
      have k0 : (0 : Int) ≤ (k : Int) := by omega
      have k1 : (k : Int) < (n : Int) := by omega
      go_wp2
      go_roundw
      case rel => exact ⟨k + 1, _, by omega, by go_num, Lib.hid (fun j hj => by
          by_cases h : j = k
          · rw [if_pos h]
          · rw [if_neg h]; exact hf.out j (by omega)), HS⟩
      case measure => simp [intOf]; omega
    · have hkn : n = k := by omega
      subst hkn
      replace PA := Lib.hid (PA.out.cong (g := fun j => valS 0 (ownerS (l.getD j 0))) (fun j hj => by rw [hf.out j hj, val_zero]))
      clear hf
      go_wp2
      clear hlt hk
      go_loopw [14] (fun t wr => ∃ tt : Nat, tt ≤ 4 ∧ t = .int .i64 (tt : Int) ∧ Hid (PaW w wr a b A n c l go (fun j => valS tt (ownerS (l.getD j 0)))))
        (fun t _ => 4 - (intOf t).toNat)
      case atStart => exact ⟨0, Nat.zero_le _, rfl, PA⟩
      case round =>
        obtain ⟨tt, ht, rfl, hPA⟩ := hrel
        clear PA
        have PA := hPA
        clear hPA
        have c0 := PA.out.kf.cellv 0 (v := .int .i64 a) rfl
        have c1 := PA.out.kf.cellv 1 (v := .int .i64 b) rfl
        have c2 := PA.out.kf.cellv 2 (v := .slice A n c) rfl
        by_cases ht4 : tt < 4
        · by_cases ht3 : tt < 3
          · have P1 := Lib.hid (fun W hb => P.out (tt : Int) W hb)
            rw [HP.out (tt : Int) (by omega) (by omega)] at P1
            have hwt : wt tt = (tt : Int) := by unfold wt; rw [if_neg (by omega)]
            have e3 : ((tt : Int) == 3) = false := by rw [beq_eq_false_iff_ne]; omega
            rw [← hwt] at P1
            have HW := Lib.hid hwt
            clear hwt
            go_wp2_with fail
            rw [← HW.out]
            refine (P1.out _ PA.out.bel).mono ?_
            rintro e x ⟨v, rfl, hown, hb⟩
            obtain ⟨A1, cl, rfl, _, _, _⟩ := own_form hown
            have hgo := PA.out.ge.2
            have LO := Lib.hid (own_more hown (show go + 1 ≤ _ by omega))
            replace PA := Lib.hid (PA.out.next hb)
            obtain ⟨m, hm⟩ : ∃ m, m = (placesS l (wt tt)).length := ⟨_, rfl⟩
            rw [← hm] at LO ⊢
            have HM := Lib.hid hm.symm
            have hml : m ≤ n := by have := placesTo_le l (wt tt) l.length; have := HLEN.out; rw [hm]; simp only [placesS]; omega
            rw [HW.out]
            clear hb hown c0 c1 c2 hgo hm P1
            go_wp2
            have hL0 : Hid (∀ (i : Nat) (x : Int), (placesS l (wt tt))[i]? = some x → ∃ q : Nat, x = (q : Int) ∧ q < n ∧ ownerS (l.getD q 0) = wt tt) := Lib.hid (fun i x h => by
              obtain ⟨q, e, hq, ho⟩ := in_at h
              exact ⟨q, e, by have := HLEN.out; omega, ho⟩)
            replace PA := Lib.hid (PA.out.cong (g := inS l tt 0) (fun j _ => (in_zero j).symm))
            go_loopw [18] (fun i wr => ∃ (q : Nat) (z : Int), q ≤ m ∧ i = .int .i64 z ∧ Hid (z = (q : Int)) ∧ Hid (PaW w wr a b A n c l go (inS l tt q)) ∧ Hid (wr.ownsRow (go + 1) 3 1 (.slice A1 m cl) m (iv (placesS l (wt tt)))))
              (fun i _ => m - (intOf i).toNat)
            case atStart => exact ⟨0, 0, Nat.zero_le _, rfl, Lib.hid rfl, PA, LO⟩
            case round =>
              obtain ⟨q, z, hq, rfl, HZ, hPA, hLO⟩ := hrel
              clear PA LO
              have PA := hPA
              have LO := hLO
              clear hPA hLO
              have hz := HZ.out
              have z0 : (0 : Int) ≤ z := by omega
              have zt : z.toNat = q := by omega
              by_cases hlt : q < m
              · have hge := PA.out.ge
                obtain ⟨ad, x, rfl, _, hx, hcx⟩ := ints_at (Reads.of_own LO.out) hlt
                obtain ⟨p, rfl, hp, _⟩ := hL0.out q x hx
                have hfr := in_fresh (l := l) (t := tt) (by omega) hx
                have hco := PA.out.cell hp
                rw [hfr] at hco
                rw [← zt] at hcx
                have hfz := PA.out.frozen p
                have d1 : decide ((p : Int) < 0) = false := decide_eq_false (by omega)
                have d2 : decide ((n : Int) ≤ (p : Int)) = false := decide_eq_false (by omega)
                have d2n : decide (n ≤ p) = false := decide_eq_false (by omega)
                have d0 : decide (z < (m : Int)) = true := decide_eq_true (by omega)
                have z1 : z < (m : Int) := by omega
                have z2 : (m : Int) ≤ 64 := by omega
                have p0 : (0 : Int) ≤ (p : Int) := by omega
                have p1 : (p : Int) < (n : Int) := by omega
                have HSTEP : Hid (∀ j, j < n → (if j = p then ((tt : Int) : Int) else inS l tt q j) = inS l tt (q + 1) j) := Lib.hid (fun j _ => by rw [in_step hx, HW.out])
                have HSET := Lib.hid (fun k => ((PA.out.next (below_drewN (Below.refl _ _) k)).set p ((tt : Int))).cong HSTEP.out)
                have HLS := Lib.hid (fun k => own_far (w := wr.drewN k) (show (wr.drewN k).ownsRow (go + 1) 3 1 (.slice (some ad) m cl) m (iv (placesS l (wt tt))) from LO.out) (p := ⟨go, p, none⟩) (by simp) (.int .i64 ((tt : Int))))
                have HQ : Hid (q + 1 ≤ m ∧ z + 1 = ((q + 1 : Nat) : Int)) := Lib.hid ⟨by omega, by omega⟩
                by_cases hq0 : q = 0
                · have d3 : decide ((0 : Int) < z) = false := decide_eq_false (by omega)
                  clear hx hfr hge hq0 hlt hz zt hq
                  go_wp2
                  go_quiet (fail)
                  go_wp2
                  go_roundw
                  case rel => exact ⟨q + 1, z + 1, HQ.out.1, rfl, Lib.hid HQ.out.2, Lib.hid (HSET.out nq), Lib.hid (HLS.out nq)⟩
                  case measure => simp [intOf]; omega
                · obtain ⟨r, hr⟩ : ∃ r : Nat, q = r + 1 := ⟨q - 1, by omega⟩
                  obtain ⟨ad', y, he, _, hy, hcy⟩ := ints_at (Reads.of_own LO.out) (show r < m by omega)
                  injection he with he
                  subst he
                  have hxy := in_asc hy (by rw [← hr]; exact hx)
                  have d3 : decide ((0 : Int) < z) = true := decide_eq_true (by omega)
                  have d4 : decide ((p : Int) ≤ y) = false := decide_eq_false (by omega)
                  obtain ⟨zp, hzp⟩ : ∃ zp : Int, z - 1 = zp := ⟨_, rfl⟩
                  have zr : zp.toNat = r := by omega
                  rw [← zr] at hcy
                  have z3 : 0 ≤ zp := by omega
                  have z4 : zp < (m : Int) := by omega
                  clear hx hfr hge hy hxy hr hq0 zr hlt hz zt hq
                  go_wp2
                  go_quiet (fail)
                  go_wp2
                  go_roundw
                  case rel => exact ⟨q + 1, z + 1, HQ.out.1, rfl, Lib.hid HQ.out.2, Lib.hid (HSET.out nq), Lib.hid (HLS.out nq)⟩
                  case measure => simp [intOf]; omega
              · have hqm : m = q := by omega
                have d0 : decide (z < (m : Int)) = false := decide_eq_false (by omega)
                have hfin : Hid (PaW w wr a b A n c l go (fun j => valS (tt + 1) (ownerS (l.getD j 0)))) := Lib.hid (PA.out.cong (fun j hj => by
                  have := in_last (l := l) (t := tt) (j := j) (by omega) (by have := HLEN.out; omega) (HOB.out j hj).2
                  rw [HM.out, hqm] at this
                  exact this))
                clear PA LO hz zt hlt hq hqm HZ
                have PA := hfin
                clear hfin
                go_wp2
                go_roundw
                case rel => exact ⟨tt + 1, by omega, by go_num, PA⟩
                case measure => (first | (simp [intOf]; omega) | simp [intOf])
          · obtain rfl : tt = 3 := by omega
            have P1 := Lib.hid (fun W hb => P.out 3 W hb)
            rw [HP3.out] at P1
            have HW : Hid (wt 3 = -2) := Lib.hid rfl
            go_wp2_with fail
            refine (P1.out _ PA.out.bel).mono ?_
            rintro e x ⟨v, rfl, hown, hb⟩
            obtain ⟨A0, cl0, rfl, _, _, _⟩ := own_form hown
            replace PA := Lib.hid (PA.out.next hb)
            clear hb hown c0 c1 c2
            have c0 := PA.out.kf.cellv 0 (v := .int .i64 a) rfl
            have c1 := PA.out.kf.cellv 1 (v := .int .i64 b) rfl
            have c2 := PA.out.kf.cellv 2 (v := .slice A n c) rfl
            have S1 := Lib.hid (fun W hb => S.out W hb)
            rw [← HW.out] at S1
            go_wp2_with fail
            refine (S1.out _ PA.out.bel).mono ?_
            rintro e x ⟨v, rfl, hown, hb⟩
            obtain ⟨A1, cl, rfl, _, _, _⟩ := own_form hown
            have hgo := PA.out.ge.2
            have LO := Lib.hid (own_more hown (show go + 1 ≤ _ by omega))
            replace PA := Lib.hid (PA.out.next hb)
            obtain ⟨m, hm⟩ : ∃ m, m = (placesS l (wt 3)).length := ⟨_, rfl⟩
            rw [← hm] at LO ⊢
            have HM := Lib.hid hm.symm
            have hml : m ≤ n := by have := placesTo_le l (wt 3) l.length; have := HLEN.out; rw [hm]; simp only [placesS]; omega
            clear hb hown c0 c1 c2 hgo hm P1 S1
            go_wp2
            have hL0 : Hid (∀ (i : Nat) (x : Int), (placesS l (wt 3))[i]? = some x → ∃ q : Nat, x = (q : Int) ∧ q < n ∧ ownerS (l.getD q 0) = wt 3) := Lib.hid (fun i x h => by
              obtain ⟨q, e, hq, ho⟩ := in_at h
              exact ⟨q, e, by have := HLEN.out; omega, ho⟩)
            replace PA := Lib.hid (PA.out.cong (g := inS l 3 0) (fun j _ => (in_zero j).symm))
            go_loopw [18] (fun i wr => ∃ (q : Nat) (z : Int), q ≤ m ∧ i = .int .i64 z ∧ Hid (z = (q : Int)) ∧ Hid (PaW w wr a b A n c l go (inS l 3 q)) ∧ Hid (wr.ownsRow (go + 1) 3 1 (.slice A1 m cl) m (iv (placesS l (wt 3)))))
              (fun i _ => m - (intOf i).toNat)
            case atStart => exact ⟨0, 0, Nat.zero_le _, rfl, Lib.hid rfl, PA, LO⟩
            case round =>
              obtain ⟨q, z, hq, rfl, HZ, hPA, hLO⟩ := hrel
              clear PA LO
              have PA := hPA
              have LO := hLO
              clear hPA hLO
              have hz := HZ.out
              have z0 : (0 : Int) ≤ z := by omega
              have zt : z.toNat = q := by omega
              by_cases hlt : q < m
              · have hge := PA.out.ge
                obtain ⟨ad, x, rfl, _, hx, hcx⟩ := ints_at (Reads.of_own LO.out) hlt
                obtain ⟨p, rfl, hp, _⟩ := hL0.out q x hx
                have hfr := in_fresh (l := l) (t := 3) (by omega) hx
                have hco := PA.out.cell hp
                rw [hfr] at hco
                rw [← zt] at hcx
                have hfz := PA.out.frozen p
                have d1 : decide ((p : Int) < 0) = false := decide_eq_false (by omega)
                have d2 : decide ((n : Int) ≤ (p : Int)) = false := decide_eq_false (by omega)
                have d2n : decide (n ≤ p) = false := decide_eq_false (by omega)
                have d0 : decide (z < (m : Int)) = true := decide_eq_true (by omega)
                have z1 : z < (m : Int) := by omega
                have z2 : (m : Int) ≤ 64 := by omega
                have p0 : (0 : Int) ≤ (p : Int) := by omega
                have p1 : (p : Int) < (n : Int) := by omega
                have HSTEP : Hid (∀ j, j < n → (if j = p then (-2 : Int) else inS l 3 q j) = inS l 3 (q + 1) j) := Lib.hid (fun j _ => by rw [in_step hx, HW.out])
                have HSET := Lib.hid (fun k => ((PA.out.next (below_drewN (Below.refl _ _) k)).set p (-2)).cong HSTEP.out)
                have HLS := Lib.hid (fun k => own_far (w := wr.drewN k) (show (wr.drewN k).ownsRow (go + 1) 3 1 (.slice (some ad) m cl) m (iv (placesS l (wt 3))) from LO.out) (p := ⟨go, p, none⟩) (by simp) (.int .i64 (-2)))
                have HQ : Hid (q + 1 ≤ m ∧ z + 1 = ((q + 1 : Nat) : Int)) := Lib.hid ⟨by omega, by omega⟩
                by_cases hq0 : q = 0
                · have d3 : decide ((0 : Int) < z) = false := decide_eq_false (by omega)
                  clear hx hfr hge hq0 hlt hz zt hq
                  go_wp2
                  go_quiet (fail)
                  go_wp2
                  go_roundw
                  case rel => exact ⟨q + 1, z + 1, HQ.out.1, rfl, Lib.hid HQ.out.2, Lib.hid (HSET.out nq), Lib.hid (HLS.out nq)⟩
                  case measure => simp [intOf]; omega
                · obtain ⟨r, hr⟩ : ∃ r : Nat, q = r + 1 := ⟨q - 1, by omega⟩
                  obtain ⟨ad', y, he, _, hy, hcy⟩ := ints_at (Reads.of_own LO.out) (show r < m by omega)
                  injection he with he
                  subst he
                  have hxy := in_asc hy (by rw [← hr]; exact hx)
                  have d3 : decide ((0 : Int) < z) = true := decide_eq_true (by omega)
                  have d4 : decide ((p : Int) ≤ y) = false := decide_eq_false (by omega)
                  obtain ⟨zp, hzp⟩ : ∃ zp : Int, z - 1 = zp := ⟨_, rfl⟩
                  have zr : zp.toNat = r := by omega
                  rw [← zr] at hcy
                  have z3 : 0 ≤ zp := by omega
                  have z4 : zp < (m : Int) := by omega
                  clear hx hfr hge hy hxy hr hq0 zr hlt hz zt hq
                  go_wp2
                  go_quiet (fail)
                  go_wp2
                  go_roundw
                  case rel => exact ⟨q + 1, z + 1, HQ.out.1, rfl, Lib.hid HQ.out.2, Lib.hid (HSET.out nq), Lib.hid (HLS.out nq)⟩
                  case measure => simp [intOf]; omega
              · have hqm : m = q := by omega
                have d0 : decide (z < (m : Int)) = false := decide_eq_false (by omega)
                have hfin : Hid (PaW w wr a b A n c l go (fun j => valS (3 + 1) (ownerS (l.getD j 0)))) := Lib.hid (PA.out.cong (fun j hj => by
                  have := in_last (l := l) (t := 3) (j := j) (by omega) (by have := HLEN.out; omega) (HOB.out j hj).2
                  rw [HM.out, hqm] at this
                  exact this))
                clear PA LO hz zt hlt hq hqm HZ
                have PA := hfin
                clear hfin
                go_wp2
                go_roundw
                case rel => exact ⟨3 + 1, by omega, by go_num, PA⟩
                case measure => (first | (simp [intOf]; omega) | simp [intOf])
        · obtain rfl : tt = 4 := by omega
          rw [show ((4 : Nat) : Int) = 4 from rfl]
          replace PA := Lib.hid (PA.out.cong (g := fun j => ownerS (l.getD j 0)) (fun j hj => val_last (HOB.out j hj).1 (HOB.out j hj).2))
          clear c0 c1 c2
          go_wp2
          go_loopw [19] (fun i wr => ∃ k : Nat, k ≤ n ∧ i = .int .i64 (k : Int) ∧ Hid (PaW w wr a b A n c l go (fun j => ownerS (l.getD j 0))))
            (fun i _ => n - (intOf i).toNat)
          case atStart => exact ⟨0, Nat.zero_le _, rfl, PA⟩
          case round =>
            obtain ⟨k, hk, rfl, hPA⟩ := hrel
            clear PA
            have PA := hPA
            clear hPA
            have c0 := PA.out.kf.cellv 0 (v := .int .i64 a) rfl
            have c1 := PA.out.kf.cellv 1 (v := .int .i64 b) rfl
            have c2 := PA.out.kf.cellv 2 (v := .slice A n c) rfl
            by_cases hlt : k < n
            · have O1 := Lib.hid (fun W hb => O.out (k : Int) W hb)
              rw [HO.out k hlt] at O1
              have hw := owner_wall (HC.out k hlt)
              obtain ⟨o, ho⟩ : ∃ o, o = ownerS (l.getD k 0) := ⟨_, rfl⟩
              have HO1 := Lib.hid ho
              rw [← ho] at O1 hw
              have HWL := Lib.hid hw
              have k0 : (0 : Int) ≤ (k : Int) := by omega
              have k1 : (k : Int) < (n : Int) := by omega
              clear ho hw
              go_wp2_with fail
              refine (O1.out _ PA.out.bel).mono ?_
              rintro e x ⟨rfl, hb⟩
              replace PA := Lib.hid (PA.out.next hb)
              clear hb c0 c1 c2 O1
              have c0 := PA.out.kf.cellv 0 (v := .int .i64 a) rfl
              have c1 := PA.out.kf.cellv 1 (v := .int .i64 b) rfl
              have c2 := PA.out.kf.cellv 2 (v := .slice A n c) rfl
              have hco := PA.out.cell hlt
              rw [← HO1.out] at hco
              obtain ⟨ad, y, rfl, _, hy, hcx⟩ := cells_at PA.out.rf hlt
              have hw := HWL.out
              rw [show l.getD k 0 = y from by simp [hy]] at hw
              clear hy
              obtain ⟨z, hz⟩ : ∃ z, z = (o == -1) := ⟨_, rfl⟩
              rw [← hz] at hw
              have hz1 := hz.symm
              have hz2 := hw.symm
              clear hz hw
              generalize (y.toNat : Int) = my at *
              cases z
              all_goals
                go_wp2_with fail
                refine (is_true _ _).mono ?_
                rintro e x9 ⟨rfl, rfl⟩
                go_wp2
                go_roundw
                case rel => exact ⟨k + 1, by omega, by go_num, PA⟩
                case measure => simp [intOf]; omega
            · have hkn : n = k := by omega
              subst hkn
              go_wp2
              go_ret
              exact ⟨rfl, PA.out.bel⟩

theorem floorPartition_walk (a b : Int) (A : Option Addr) (n c : Nat) (l : List UInt8) (w : World) (hr : Reads w w.heap.size 1 A n (bv l)) (hnc : n ≤ c) (hc : c ≤ 140737488351232) :
    Calls Try.prog 12 #[.agg #[.int .i64 a, .int .i64 b, .slice A n c]] w fun e w' => e = .returned (.bool true) ∧ Below w.heap.size w w' := by
  cases hv : floorB a b l
  · exact part_bad a b A n c l w hr (by omega) hv
  · exact part_ok a b A n c l w hr (by omega) hv
end Go.Proofs.Ythehkapaipfoaaa.floorPartition
