/-
  CFGCHECKT: CheckTeam (both).
-/
import Derived.Test.YtcbghchciplfcaaCfgValid
namespace Go.Proofs.Ytcbghchciplfcaa
set_option linter.unusedVariables false
set_option linter.unusedSimpArgs false
set_option maxRecDepth 100000
open Go.RowKit

/-- a floor and a team in variables of the call's own. -/
structure FTB (w X : World) (a b : Int) (fv : Value) (m : Tm) : Prop where
  kf : Blk X w.heap.size 30 #[.int .i64 a, .int .i64 b, fv]
  kt : Blk X (w.heap.size + 1) 24 m.arr
  bel : Below w.heap.size w X
theorem FTB.next {w X X' : World} {a b : Int} {fv : Value} {m : Tm} (h : FTB w X a b fv m) (hb : Below X.heap.size X X') : FTB w X' a b fv m :=
  ⟨h.kf.below hb h.kf.lt, h.kt.below hb h.kt.lt, h.bel.trans (hb.mono h.bel.size)⟩
theorem ftb (w : World) (a b : Int) (fv : Value) (m : Tm) : FTB w ((w.alloc (.cells #[.int .i64 a, .int .i64 b, fv] 30)).alloc (.cells m.arr 24)) a b fv m := by
  have h1 := Blk.new w 30 #[.int .i64 a, .int .i64 b, fv]
  have h2 := Blk.new (w.alloc (.cells #[.int .i64 a, .int .i64 b, fv] 30)) 24 m.arr
  simp at h2
  exact ⟨h1.alloc _, h2, bk_alloc (bk_alloc (Below.refl _ _) _) _⟩
theorem numB_small {m : Tm} {w : World} {B : Nat} (hm : m.In w B) (h : m.tm.numB = true) : m.hn + m.pn + m.dn ≤ 9 := by
  have h1 := hm.h.len; have h2 := hm.p.len; have h3 := hm.d.len
  unfold Team.numB btw at h
  simp at h
  omega
set_option maxHeartbeats 3200000 in
theorem checkTeam_any (a b : Int) (A : Option Addr) (n c : Nat) (cl : List UInt8) (t : Int) (m : Tm) (w : World) (hr : Reads w w.heap.size 1 A n (bv cl)) (hn : n ≤ 140737488351232) (hm : m.In w w.heap.size) :
    Calls Try.prog 21 #[.agg #[.int .i64 a, .int .i64 b, .slice A n c], .int .i64 t, m.val] w fun e w' => e = .returned (.int .i64 (checkTeamS a b cl t m.tm)) ∧ Below w.heap.size w w' := by
  have FT := Lib.hid (ftb w a b (.slice A n c) m)
  have V1 := Lib.hid (fun W (hb : Below w.heap.size w W) => check_any a b A n c cl W ((hr.below hb).more hb.size) hn)
  have V2 := Lib.hid (fun W (hb : Below w.heap.size w W) => absent_any m W (hm.go hb))
  have V3 := Lib.hid (fun W (hb : Below w.heap.size w W) => numbers_any m W (hm.go hb))
  have E : Hid (checkTeamS a b cl t m.tm = if floorB a b cl then (if 0 ≤ t ∧ t < 3 then (if m.tm.absB || m.tm.validB cl t then 0 else 70) else 2) else 50) := Lib.hid rfl
  cases hv : floorB a b cl
  · rw [hv] at V1 E
    simp only [Bool.false_eq_true, if_false] at V1 E
    clear hv hr hm V2 V3
    go_enter Try.func21, Try.ntmps21
    go_upto_region 1 with fail
    generalize World.alloc _ _ = X at FT ⊢
    have f0 := FT.out.kf.cellv 0 (v := .int .i64 a) rfl
    have f1 := FT.out.kf.cellv 1 (v := .int .i64 b) rfl
    have f2 := FT.out.kf.cellv 2 (v := .slice A n c) rfl
    have c0 := FT.out.kt.cellv 0 (v := .slice m.hA m.hn m.hc) rfl
    have c1 := FT.out.kt.cellv 1 (v := .slice m.pA m.pn m.pc) rfl
    have c2 := FT.out.kt.cellv 2 (v := .slice m.dA m.dn m.dc) rfl
    have c3 := FT.out.kt.cellv 3 (v := .int .i64 m.tm.lo) rfl
    have c4 := FT.out.kt.cellv 4 (v := .int .i64 m.tm.un) rfl
    have c5 := FT.out.kt.cellv 5 (v := .int .i64 m.tm.qu) rfl
    have c6 := FT.out.kt.cellv 6 (v := .int .i64 m.tm.qt) rfl
    have c7 := FT.out.kt.cellv 7 (v := .int .i64 m.tm.wi) rfl
    go_wp2_with fail
    refine (V1.out _ FT.out.bel).mono ?_
    rintro e x ⟨rfl, hb⟩
    replace FT := Lib.hid (FT.out.next hb)
    clear hb
    clear f0 f1 f2 c0 c1 c2 c3 c4 c5 c6 c7
    have f0 := FT.out.kf.cellv 0 (v := .int .i64 a) rfl
    have f1 := FT.out.kf.cellv 1 (v := .int .i64 b) rfl
    have f2 := FT.out.kf.cellv 2 (v := .slice A n c) rfl
    have c0 := FT.out.kt.cellv 0 (v := .slice m.hA m.hn m.hc) rfl
    have c1 := FT.out.kt.cellv 1 (v := .slice m.pA m.pn m.pc) rfl
    have c2 := FT.out.kt.cellv 2 (v := .slice m.dA m.dn m.dc) rfl
    have c3 := FT.out.kt.cellv 3 (v := .int .i64 m.tm.lo) rfl
    have c4 := FT.out.kt.cellv 4 (v := .int .i64 m.tm.un) rfl
    have c5 := FT.out.kt.cellv 5 (v := .int .i64 m.tm.qu) rfl
    have c6 := FT.out.kt.cellv 6 (v := .int .i64 m.tm.qt) rfl
    have c7 := FT.out.kt.cellv 7 (v := .int .i64 m.tm.wi) rfl
    go_wp2
    go_ret
    exact ⟨by rw [E.out]; rfl, FT.out.bel⟩
  · rw [hv] at V1 E
    simp only [if_true] at V1 E
    by_cases t0 : t < 0
    · have d1 : decide (t < 0) = true := decide_eq_true t0
      have E2 := E.out
      rw [if_neg (by omega)] at E2
      replace E := Lib.hid E2
      clear E2 t0 hv hr hm V2 V3
      go_enter Try.func21, Try.ntmps21
      go_upto_region 1 with fail
      generalize World.alloc _ _ = X at FT ⊢
      have f0 := FT.out.kf.cellv 0 (v := .int .i64 a) rfl
      have f1 := FT.out.kf.cellv 1 (v := .int .i64 b) rfl
      have f2 := FT.out.kf.cellv 2 (v := .slice A n c) rfl
      have c0 := FT.out.kt.cellv 0 (v := .slice m.hA m.hn m.hc) rfl
      have c1 := FT.out.kt.cellv 1 (v := .slice m.pA m.pn m.pc) rfl
      have c2 := FT.out.kt.cellv 2 (v := .slice m.dA m.dn m.dc) rfl
      have c3 := FT.out.kt.cellv 3 (v := .int .i64 m.tm.lo) rfl
      have c4 := FT.out.kt.cellv 4 (v := .int .i64 m.tm.un) rfl
      have c5 := FT.out.kt.cellv 5 (v := .int .i64 m.tm.qu) rfl
      have c6 := FT.out.kt.cellv 6 (v := .int .i64 m.tm.qt) rfl
      have c7 := FT.out.kt.cellv 7 (v := .int .i64 m.tm.wi) rfl
      go_wp2_with fail
      refine (V1.out _ FT.out.bel).mono ?_
      rintro e x ⟨rfl, hb⟩
      replace FT := Lib.hid (FT.out.next hb)
      clear hb
      clear f0 f1 f2 c0 c1 c2 c3 c4 c5 c6 c7
      have f0 := FT.out.kf.cellv 0 (v := .int .i64 a) rfl
      have f1 := FT.out.kf.cellv 1 (v := .int .i64 b) rfl
      have f2 := FT.out.kf.cellv 2 (v := .slice A n c) rfl
      have c0 := FT.out.kt.cellv 0 (v := .slice m.hA m.hn m.hc) rfl
      have c1 := FT.out.kt.cellv 1 (v := .slice m.pA m.pn m.pc) rfl
      have c2 := FT.out.kt.cellv 2 (v := .slice m.dA m.dn m.dc) rfl
      have c3 := FT.out.kt.cellv 3 (v := .int .i64 m.tm.lo) rfl
      have c4 := FT.out.kt.cellv 4 (v := .int .i64 m.tm.un) rfl
      have c5 := FT.out.kt.cellv 5 (v := .int .i64 m.tm.qu) rfl
      have c6 := FT.out.kt.cellv 6 (v := .int .i64 m.tm.qt) rfl
      have c7 := FT.out.kt.cellv 7 (v := .int .i64 m.tm.wi) rfl
      go_wp2
      go_ret
      exact ⟨by rw [E.out]; rfl, FT.out.bel⟩
    · have d1 : decide (t < 0) = false := decide_eq_false t0
      by_cases t3 : t ≥ 3
      · have d2 : decide (t ≥ 3) = true := decide_eq_true t3
        have E2 := E.out
        rw [if_neg (by omega)] at E2
        replace E := Lib.hid E2
        clear E2 t0 t3 hv hr hm V2 V3
        go_enter Try.func21, Try.ntmps21
        go_upto_region 1 with fail
        generalize World.alloc _ _ = X at FT ⊢
        have f0 := FT.out.kf.cellv 0 (v := .int .i64 a) rfl
        have f1 := FT.out.kf.cellv 1 (v := .int .i64 b) rfl
        have f2 := FT.out.kf.cellv 2 (v := .slice A n c) rfl
        have c0 := FT.out.kt.cellv 0 (v := .slice m.hA m.hn m.hc) rfl
        have c1 := FT.out.kt.cellv 1 (v := .slice m.pA m.pn m.pc) rfl
        have c2 := FT.out.kt.cellv 2 (v := .slice m.dA m.dn m.dc) rfl
        have c3 := FT.out.kt.cellv 3 (v := .int .i64 m.tm.lo) rfl
        have c4 := FT.out.kt.cellv 4 (v := .int .i64 m.tm.un) rfl
        have c5 := FT.out.kt.cellv 5 (v := .int .i64 m.tm.qu) rfl
        have c6 := FT.out.kt.cellv 6 (v := .int .i64 m.tm.qt) rfl
        have c7 := FT.out.kt.cellv 7 (v := .int .i64 m.tm.wi) rfl
        go_wp2_with fail
        refine (V1.out _ FT.out.bel).mono ?_
        rintro e x ⟨rfl, hb⟩
        replace FT := Lib.hid (FT.out.next hb)
        clear hb
        clear f0 f1 f2 c0 c1 c2 c3 c4 c5 c6 c7
        have f0 := FT.out.kf.cellv 0 (v := .int .i64 a) rfl
        have f1 := FT.out.kf.cellv 1 (v := .int .i64 b) rfl
        have f2 := FT.out.kf.cellv 2 (v := .slice A n c) rfl
        have c0 := FT.out.kt.cellv 0 (v := .slice m.hA m.hn m.hc) rfl
        have c1 := FT.out.kt.cellv 1 (v := .slice m.pA m.pn m.pc) rfl
        have c2 := FT.out.kt.cellv 2 (v := .slice m.dA m.dn m.dc) rfl
        have c3 := FT.out.kt.cellv 3 (v := .int .i64 m.tm.lo) rfl
        have c4 := FT.out.kt.cellv 4 (v := .int .i64 m.tm.un) rfl
        have c5 := FT.out.kt.cellv 5 (v := .int .i64 m.tm.qu) rfl
        have c6 := FT.out.kt.cellv 6 (v := .int .i64 m.tm.qt) rfl
        have c7 := FT.out.kt.cellv 7 (v := .int .i64 m.tm.wi) rfl
        go_wp2
        go_ret
        exact ⟨by rw [E.out]; rfl, FT.out.bel⟩
      · have d2 : decide (t ≥ 3) = false := decide_eq_false t3
        have E2 := E.out
        rw [if_pos (by omega)] at E2
        replace E := Lib.hid E2
        clear E2 t0 t3
        have EV : Hid (m.tm.validB cl t = (m.tm.numB && spotsB cl t m.tm.spots)) := Lib.hid rfl
        cases hab : m.tm.absB
        · rw [hab] at V2 E
          rw [Bool.false_or] at E
          cases hnum : m.tm.numB
          · rw [hnum] at V3 EV
            rw [EV.out] at E
            clear EV hab hnum hv hr hm
            go_enter Try.func21, Try.ntmps21
            go_upto_region 1 with fail
            generalize World.alloc _ _ = X at FT ⊢
            have f0 := FT.out.kf.cellv 0 (v := .int .i64 a) rfl
            have f1 := FT.out.kf.cellv 1 (v := .int .i64 b) rfl
            have f2 := FT.out.kf.cellv 2 (v := .slice A n c) rfl
            have c0 := FT.out.kt.cellv 0 (v := .slice m.hA m.hn m.hc) rfl
            have c1 := FT.out.kt.cellv 1 (v := .slice m.pA m.pn m.pc) rfl
            have c2 := FT.out.kt.cellv 2 (v := .slice m.dA m.dn m.dc) rfl
            have c3 := FT.out.kt.cellv 3 (v := .int .i64 m.tm.lo) rfl
            have c4 := FT.out.kt.cellv 4 (v := .int .i64 m.tm.un) rfl
            have c5 := FT.out.kt.cellv 5 (v := .int .i64 m.tm.qu) rfl
            have c6 := FT.out.kt.cellv 6 (v := .int .i64 m.tm.qt) rfl
            have c7 := FT.out.kt.cellv 7 (v := .int .i64 m.tm.wi) rfl
            go_wp2_with fail
            refine (V1.out _ FT.out.bel).mono ?_
            rintro e x ⟨rfl, hb⟩
            replace FT := Lib.hid (FT.out.next hb)
            clear hb
            clear f0 f1 f2 c0 c1 c2 c3 c4 c5 c6 c7
            have f0 := FT.out.kf.cellv 0 (v := .int .i64 a) rfl
            have f1 := FT.out.kf.cellv 1 (v := .int .i64 b) rfl
            have f2 := FT.out.kf.cellv 2 (v := .slice A n c) rfl
            have c0 := FT.out.kt.cellv 0 (v := .slice m.hA m.hn m.hc) rfl
            have c1 := FT.out.kt.cellv 1 (v := .slice m.pA m.pn m.pc) rfl
            have c2 := FT.out.kt.cellv 2 (v := .slice m.dA m.dn m.dc) rfl
            have c3 := FT.out.kt.cellv 3 (v := .int .i64 m.tm.lo) rfl
            have c4 := FT.out.kt.cellv 4 (v := .int .i64 m.tm.un) rfl
            have c5 := FT.out.kt.cellv 5 (v := .int .i64 m.tm.qu) rfl
            have c6 := FT.out.kt.cellv 6 (v := .int .i64 m.tm.qt) rfl
            have c7 := FT.out.kt.cellv 7 (v := .int .i64 m.tm.wi) rfl
            go_wp2_with fail
            refine (V2.out _ FT.out.bel).mono ?_
            rintro e x ⟨rfl, hb⟩
            replace FT := Lib.hid (FT.out.next hb)
            clear hb
            clear f0 f1 f2 c0 c1 c2 c3 c4 c5 c6 c7
            have f0 := FT.out.kf.cellv 0 (v := .int .i64 a) rfl
            have f1 := FT.out.kf.cellv 1 (v := .int .i64 b) rfl
            have f2 := FT.out.kf.cellv 2 (v := .slice A n c) rfl
            have c0 := FT.out.kt.cellv 0 (v := .slice m.hA m.hn m.hc) rfl
            have c1 := FT.out.kt.cellv 1 (v := .slice m.pA m.pn m.pc) rfl
            have c2 := FT.out.kt.cellv 2 (v := .slice m.dA m.dn m.dc) rfl
            have c3 := FT.out.kt.cellv 3 (v := .int .i64 m.tm.lo) rfl
            have c4 := FT.out.kt.cellv 4 (v := .int .i64 m.tm.un) rfl
            have c5 := FT.out.kt.cellv 5 (v := .int .i64 m.tm.qu) rfl
            have c6 := FT.out.kt.cellv 6 (v := .int .i64 m.tm.qt) rfl
            have c7 := FT.out.kt.cellv 7 (v := .int .i64 m.tm.wi) rfl
            go_wp2_with fail
            refine (V3.out _ FT.out.bel).mono ?_
            rintro e x ⟨rfl, hb⟩
            replace FT := Lib.hid (FT.out.next hb)
            clear hb
            clear f0 f1 f2 c0 c1 c2 c3 c4 c5 c6 c7
            have f0 := FT.out.kf.cellv 0 (v := .int .i64 a) rfl
            have f1 := FT.out.kf.cellv 1 (v := .int .i64 b) rfl
            have f2 := FT.out.kf.cellv 2 (v := .slice A n c) rfl
            have c0 := FT.out.kt.cellv 0 (v := .slice m.hA m.hn m.hc) rfl
            have c1 := FT.out.kt.cellv 1 (v := .slice m.pA m.pn m.pc) rfl
            have c2 := FT.out.kt.cellv 2 (v := .slice m.dA m.dn m.dc) rfl
            have c3 := FT.out.kt.cellv 3 (v := .int .i64 m.tm.lo) rfl
            have c4 := FT.out.kt.cellv 4 (v := .int .i64 m.tm.un) rfl
            have c5 := FT.out.kt.cellv 5 (v := .int .i64 m.tm.qu) rfl
            have c6 := FT.out.kt.cellv 6 (v := .int .i64 m.tm.qt) rfl
            have c7 := FT.out.kt.cellv 7 (v := .int .i64 m.tm.wi) rfl
            go_wp2
            go_ret
            exact ⟨by rw [E.out]; rfl, FT.out.bel⟩
          · have V4 := Lib.hid (fun W (hb : Below w.heap.size w W) => validSpots_any a b A n c cl t m W ((hr.below hb).more hb.size) hn hv (hm.go hb) (by have := numB_small hm hnum; omega))
            rw [hnum] at V3 EV
            rw [EV.out, Bool.true_and] at E
            generalize spotsB cl t m.tm.spots = R at V4 E
            clear EV hab hnum hv hr hm
            cases R
            · go_enter Try.func21, Try.ntmps21
              go_upto_region 1 with fail
              generalize World.alloc _ _ = X at FT ⊢
              have f0 := FT.out.kf.cellv 0 (v := .int .i64 a) rfl
              have f1 := FT.out.kf.cellv 1 (v := .int .i64 b) rfl
              have f2 := FT.out.kf.cellv 2 (v := .slice A n c) rfl
              have c0 := FT.out.kt.cellv 0 (v := .slice m.hA m.hn m.hc) rfl
              have c1 := FT.out.kt.cellv 1 (v := .slice m.pA m.pn m.pc) rfl
              have c2 := FT.out.kt.cellv 2 (v := .slice m.dA m.dn m.dc) rfl
              have c3 := FT.out.kt.cellv 3 (v := .int .i64 m.tm.lo) rfl
              have c4 := FT.out.kt.cellv 4 (v := .int .i64 m.tm.un) rfl
              have c5 := FT.out.kt.cellv 5 (v := .int .i64 m.tm.qu) rfl
              have c6 := FT.out.kt.cellv 6 (v := .int .i64 m.tm.qt) rfl
              have c7 := FT.out.kt.cellv 7 (v := .int .i64 m.tm.wi) rfl
              go_wp2_with fail
              refine (V1.out _ FT.out.bel).mono ?_
              rintro e x ⟨rfl, hb⟩
              replace FT := Lib.hid (FT.out.next hb)
              clear hb
              clear f0 f1 f2 c0 c1 c2 c3 c4 c5 c6 c7
              have f0 := FT.out.kf.cellv 0 (v := .int .i64 a) rfl
              have f1 := FT.out.kf.cellv 1 (v := .int .i64 b) rfl
              have f2 := FT.out.kf.cellv 2 (v := .slice A n c) rfl
              have c0 := FT.out.kt.cellv 0 (v := .slice m.hA m.hn m.hc) rfl
              have c1 := FT.out.kt.cellv 1 (v := .slice m.pA m.pn m.pc) rfl
              have c2 := FT.out.kt.cellv 2 (v := .slice m.dA m.dn m.dc) rfl
              have c3 := FT.out.kt.cellv 3 (v := .int .i64 m.tm.lo) rfl
              have c4 := FT.out.kt.cellv 4 (v := .int .i64 m.tm.un) rfl
              have c5 := FT.out.kt.cellv 5 (v := .int .i64 m.tm.qu) rfl
              have c6 := FT.out.kt.cellv 6 (v := .int .i64 m.tm.qt) rfl
              have c7 := FT.out.kt.cellv 7 (v := .int .i64 m.tm.wi) rfl
              go_wp2_with fail
              refine (V2.out _ FT.out.bel).mono ?_
              rintro e x ⟨rfl, hb⟩
              replace FT := Lib.hid (FT.out.next hb)
              clear hb
              clear f0 f1 f2 c0 c1 c2 c3 c4 c5 c6 c7
              have f0 := FT.out.kf.cellv 0 (v := .int .i64 a) rfl
              have f1 := FT.out.kf.cellv 1 (v := .int .i64 b) rfl
              have f2 := FT.out.kf.cellv 2 (v := .slice A n c) rfl
              have c0 := FT.out.kt.cellv 0 (v := .slice m.hA m.hn m.hc) rfl
              have c1 := FT.out.kt.cellv 1 (v := .slice m.pA m.pn m.pc) rfl
              have c2 := FT.out.kt.cellv 2 (v := .slice m.dA m.dn m.dc) rfl
              have c3 := FT.out.kt.cellv 3 (v := .int .i64 m.tm.lo) rfl
              have c4 := FT.out.kt.cellv 4 (v := .int .i64 m.tm.un) rfl
              have c5 := FT.out.kt.cellv 5 (v := .int .i64 m.tm.qu) rfl
              have c6 := FT.out.kt.cellv 6 (v := .int .i64 m.tm.qt) rfl
              have c7 := FT.out.kt.cellv 7 (v := .int .i64 m.tm.wi) rfl
              go_wp2_with fail
              refine (V3.out _ FT.out.bel).mono ?_
              rintro e x ⟨rfl, hb⟩
              replace FT := Lib.hid (FT.out.next hb)
              clear hb
              clear f0 f1 f2 c0 c1 c2 c3 c4 c5 c6 c7
              have f0 := FT.out.kf.cellv 0 (v := .int .i64 a) rfl
              have f1 := FT.out.kf.cellv 1 (v := .int .i64 b) rfl
              have f2 := FT.out.kf.cellv 2 (v := .slice A n c) rfl
              have c0 := FT.out.kt.cellv 0 (v := .slice m.hA m.hn m.hc) rfl
              have c1 := FT.out.kt.cellv 1 (v := .slice m.pA m.pn m.pc) rfl
              have c2 := FT.out.kt.cellv 2 (v := .slice m.dA m.dn m.dc) rfl
              have c3 := FT.out.kt.cellv 3 (v := .int .i64 m.tm.lo) rfl
              have c4 := FT.out.kt.cellv 4 (v := .int .i64 m.tm.un) rfl
              have c5 := FT.out.kt.cellv 5 (v := .int .i64 m.tm.qu) rfl
              have c6 := FT.out.kt.cellv 6 (v := .int .i64 m.tm.qt) rfl
              have c7 := FT.out.kt.cellv 7 (v := .int .i64 m.tm.wi) rfl
              go_wp2_with fail
              refine (V4.out _ FT.out.bel).mono ?_
              rintro e x ⟨rfl, hb⟩
              replace FT := Lib.hid (FT.out.next hb)
              clear hb
              clear f0 f1 f2 c0 c1 c2 c3 c4 c5 c6 c7
              have f0 := FT.out.kf.cellv 0 (v := .int .i64 a) rfl
              have f1 := FT.out.kf.cellv 1 (v := .int .i64 b) rfl
              have f2 := FT.out.kf.cellv 2 (v := .slice A n c) rfl
              have c0 := FT.out.kt.cellv 0 (v := .slice m.hA m.hn m.hc) rfl
              have c1 := FT.out.kt.cellv 1 (v := .slice m.pA m.pn m.pc) rfl
              have c2 := FT.out.kt.cellv 2 (v := .slice m.dA m.dn m.dc) rfl
              have c3 := FT.out.kt.cellv 3 (v := .int .i64 m.tm.lo) rfl
              have c4 := FT.out.kt.cellv 4 (v := .int .i64 m.tm.un) rfl
              have c5 := FT.out.kt.cellv 5 (v := .int .i64 m.tm.qu) rfl
              have c6 := FT.out.kt.cellv 6 (v := .int .i64 m.tm.qt) rfl
              have c7 := FT.out.kt.cellv 7 (v := .int .i64 m.tm.wi) rfl
              go_wp2
              go_ret
              exact ⟨by rw [E.out]; rfl, FT.out.bel⟩
            · go_enter Try.func21, Try.ntmps21
              go_upto_region 1 with fail
              generalize World.alloc _ _ = X at FT ⊢
              have f0 := FT.out.kf.cellv 0 (v := .int .i64 a) rfl
              have f1 := FT.out.kf.cellv 1 (v := .int .i64 b) rfl
              have f2 := FT.out.kf.cellv 2 (v := .slice A n c) rfl
              have c0 := FT.out.kt.cellv 0 (v := .slice m.hA m.hn m.hc) rfl
              have c1 := FT.out.kt.cellv 1 (v := .slice m.pA m.pn m.pc) rfl
              have c2 := FT.out.kt.cellv 2 (v := .slice m.dA m.dn m.dc) rfl
              have c3 := FT.out.kt.cellv 3 (v := .int .i64 m.tm.lo) rfl
              have c4 := FT.out.kt.cellv 4 (v := .int .i64 m.tm.un) rfl
              have c5 := FT.out.kt.cellv 5 (v := .int .i64 m.tm.qu) rfl
              have c6 := FT.out.kt.cellv 6 (v := .int .i64 m.tm.qt) rfl
              have c7 := FT.out.kt.cellv 7 (v := .int .i64 m.tm.wi) rfl
              go_wp2_with fail
              refine (V1.out _ FT.out.bel).mono ?_
              rintro e x ⟨rfl, hb⟩
              replace FT := Lib.hid (FT.out.next hb)
              clear hb
              clear f0 f1 f2 c0 c1 c2 c3 c4 c5 c6 c7
              have f0 := FT.out.kf.cellv 0 (v := .int .i64 a) rfl
              have f1 := FT.out.kf.cellv 1 (v := .int .i64 b) rfl
              have f2 := FT.out.kf.cellv 2 (v := .slice A n c) rfl
              have c0 := FT.out.kt.cellv 0 (v := .slice m.hA m.hn m.hc) rfl
              have c1 := FT.out.kt.cellv 1 (v := .slice m.pA m.pn m.pc) rfl
              have c2 := FT.out.kt.cellv 2 (v := .slice m.dA m.dn m.dc) rfl
              have c3 := FT.out.kt.cellv 3 (v := .int .i64 m.tm.lo) rfl
              have c4 := FT.out.kt.cellv 4 (v := .int .i64 m.tm.un) rfl
              have c5 := FT.out.kt.cellv 5 (v := .int .i64 m.tm.qu) rfl
              have c6 := FT.out.kt.cellv 6 (v := .int .i64 m.tm.qt) rfl
              have c7 := FT.out.kt.cellv 7 (v := .int .i64 m.tm.wi) rfl
              go_wp2_with fail
              refine (V2.out _ FT.out.bel).mono ?_
              rintro e x ⟨rfl, hb⟩
              replace FT := Lib.hid (FT.out.next hb)
              clear hb
              clear f0 f1 f2 c0 c1 c2 c3 c4 c5 c6 c7
              have f0 := FT.out.kf.cellv 0 (v := .int .i64 a) rfl
              have f1 := FT.out.kf.cellv 1 (v := .int .i64 b) rfl
              have f2 := FT.out.kf.cellv 2 (v := .slice A n c) rfl
              have c0 := FT.out.kt.cellv 0 (v := .slice m.hA m.hn m.hc) rfl
              have c1 := FT.out.kt.cellv 1 (v := .slice m.pA m.pn m.pc) rfl
              have c2 := FT.out.kt.cellv 2 (v := .slice m.dA m.dn m.dc) rfl
              have c3 := FT.out.kt.cellv 3 (v := .int .i64 m.tm.lo) rfl
              have c4 := FT.out.kt.cellv 4 (v := .int .i64 m.tm.un) rfl
              have c5 := FT.out.kt.cellv 5 (v := .int .i64 m.tm.qu) rfl
              have c6 := FT.out.kt.cellv 6 (v := .int .i64 m.tm.qt) rfl
              have c7 := FT.out.kt.cellv 7 (v := .int .i64 m.tm.wi) rfl
              go_wp2_with fail
              refine (V3.out _ FT.out.bel).mono ?_
              rintro e x ⟨rfl, hb⟩
              replace FT := Lib.hid (FT.out.next hb)
              clear hb
              clear f0 f1 f2 c0 c1 c2 c3 c4 c5 c6 c7
              have f0 := FT.out.kf.cellv 0 (v := .int .i64 a) rfl
              have f1 := FT.out.kf.cellv 1 (v := .int .i64 b) rfl
              have f2 := FT.out.kf.cellv 2 (v := .slice A n c) rfl
              have c0 := FT.out.kt.cellv 0 (v := .slice m.hA m.hn m.hc) rfl
              have c1 := FT.out.kt.cellv 1 (v := .slice m.pA m.pn m.pc) rfl
              have c2 := FT.out.kt.cellv 2 (v := .slice m.dA m.dn m.dc) rfl
              have c3 := FT.out.kt.cellv 3 (v := .int .i64 m.tm.lo) rfl
              have c4 := FT.out.kt.cellv 4 (v := .int .i64 m.tm.un) rfl
              have c5 := FT.out.kt.cellv 5 (v := .int .i64 m.tm.qu) rfl
              have c6 := FT.out.kt.cellv 6 (v := .int .i64 m.tm.qt) rfl
              have c7 := FT.out.kt.cellv 7 (v := .int .i64 m.tm.wi) rfl
              go_wp2_with fail
              refine (V4.out _ FT.out.bel).mono ?_
              rintro e x ⟨rfl, hb⟩
              replace FT := Lib.hid (FT.out.next hb)
              clear hb
              clear f0 f1 f2 c0 c1 c2 c3 c4 c5 c6 c7
              have f0 := FT.out.kf.cellv 0 (v := .int .i64 a) rfl
              have f1 := FT.out.kf.cellv 1 (v := .int .i64 b) rfl
              have f2 := FT.out.kf.cellv 2 (v := .slice A n c) rfl
              have c0 := FT.out.kt.cellv 0 (v := .slice m.hA m.hn m.hc) rfl
              have c1 := FT.out.kt.cellv 1 (v := .slice m.pA m.pn m.pc) rfl
              have c2 := FT.out.kt.cellv 2 (v := .slice m.dA m.dn m.dc) rfl
              have c3 := FT.out.kt.cellv 3 (v := .int .i64 m.tm.lo) rfl
              have c4 := FT.out.kt.cellv 4 (v := .int .i64 m.tm.un) rfl
              have c5 := FT.out.kt.cellv 5 (v := .int .i64 m.tm.qu) rfl
              have c6 := FT.out.kt.cellv 6 (v := .int .i64 m.tm.qt) rfl
              have c7 := FT.out.kt.cellv 7 (v := .int .i64 m.tm.wi) rfl
              go_wp2
              go_ret
              exact ⟨by rw [E.out]; rfl, FT.out.bel⟩
        · rw [hab] at V2 E
          rw [Bool.true_or] at E
          clear EV hab hv hr hm V3
          go_enter Try.func21, Try.ntmps21
          go_upto_region 1 with fail
          generalize World.alloc _ _ = X at FT ⊢
          have f0 := FT.out.kf.cellv 0 (v := .int .i64 a) rfl
          have f1 := FT.out.kf.cellv 1 (v := .int .i64 b) rfl
          have f2 := FT.out.kf.cellv 2 (v := .slice A n c) rfl
          have c0 := FT.out.kt.cellv 0 (v := .slice m.hA m.hn m.hc) rfl
          have c1 := FT.out.kt.cellv 1 (v := .slice m.pA m.pn m.pc) rfl
          have c2 := FT.out.kt.cellv 2 (v := .slice m.dA m.dn m.dc) rfl
          have c3 := FT.out.kt.cellv 3 (v := .int .i64 m.tm.lo) rfl
          have c4 := FT.out.kt.cellv 4 (v := .int .i64 m.tm.un) rfl
          have c5 := FT.out.kt.cellv 5 (v := .int .i64 m.tm.qu) rfl
          have c6 := FT.out.kt.cellv 6 (v := .int .i64 m.tm.qt) rfl
          have c7 := FT.out.kt.cellv 7 (v := .int .i64 m.tm.wi) rfl
          go_wp2_with fail
          refine (V1.out _ FT.out.bel).mono ?_
          rintro e x ⟨rfl, hb⟩
          replace FT := Lib.hid (FT.out.next hb)
          clear hb
          clear f0 f1 f2 c0 c1 c2 c3 c4 c5 c6 c7
          have f0 := FT.out.kf.cellv 0 (v := .int .i64 a) rfl
          have f1 := FT.out.kf.cellv 1 (v := .int .i64 b) rfl
          have f2 := FT.out.kf.cellv 2 (v := .slice A n c) rfl
          have c0 := FT.out.kt.cellv 0 (v := .slice m.hA m.hn m.hc) rfl
          have c1 := FT.out.kt.cellv 1 (v := .slice m.pA m.pn m.pc) rfl
          have c2 := FT.out.kt.cellv 2 (v := .slice m.dA m.dn m.dc) rfl
          have c3 := FT.out.kt.cellv 3 (v := .int .i64 m.tm.lo) rfl
          have c4 := FT.out.kt.cellv 4 (v := .int .i64 m.tm.un) rfl
          have c5 := FT.out.kt.cellv 5 (v := .int .i64 m.tm.qu) rfl
          have c6 := FT.out.kt.cellv 6 (v := .int .i64 m.tm.qt) rfl
          have c7 := FT.out.kt.cellv 7 (v := .int .i64 m.tm.wi) rfl
          go_wp2_with fail
          refine (V2.out _ FT.out.bel).mono ?_
          rintro e x ⟨rfl, hb⟩
          replace FT := Lib.hid (FT.out.next hb)
          clear hb
          clear f0 f1 f2 c0 c1 c2 c3 c4 c5 c6 c7
          have f0 := FT.out.kf.cellv 0 (v := .int .i64 a) rfl
          have f1 := FT.out.kf.cellv 1 (v := .int .i64 b) rfl
          have f2 := FT.out.kf.cellv 2 (v := .slice A n c) rfl
          have c0 := FT.out.kt.cellv 0 (v := .slice m.hA m.hn m.hc) rfl
          have c1 := FT.out.kt.cellv 1 (v := .slice m.pA m.pn m.pc) rfl
          have c2 := FT.out.kt.cellv 2 (v := .slice m.dA m.dn m.dc) rfl
          have c3 := FT.out.kt.cellv 3 (v := .int .i64 m.tm.lo) rfl
          have c4 := FT.out.kt.cellv 4 (v := .int .i64 m.tm.un) rfl
          have c5 := FT.out.kt.cellv 5 (v := .int .i64 m.tm.qu) rfl
          have c6 := FT.out.kt.cellv 6 (v := .int .i64 m.tm.qt) rfl
          have c7 := FT.out.kt.cellv 7 (v := .int .i64 m.tm.wi) rfl
          go_wp2
          go_ret
          exact ⟨by rw [E.out]; rfl, FT.out.bel⟩
set_option maxHeartbeats 3200000 in
theorem refCheckTeam_any (a b : Int) (A : Option Addr) (n c : Nat) (cl : List UInt8) (t : Int) (m : Tm) (w : World) (hr : Reads w w.heap.size 1 A n (bv cl)) (hn : n ≤ 140737488351232) (hm : m.In w w.heap.size) :
    Calls Try.prog 36 #[.agg #[.int .i64 a, .int .i64 b, .slice A n c], .int .i64 t, m.val] w fun e w' => e = .returned (.int .i64 (checkTeamS a b cl t m.tm)) ∧ Below w.heap.size w w' := by
  have FT := Lib.hid (ftb w a b (.slice A n c) m)
  have V1 := Lib.hid (fun W (hb : Below w.heap.size w W) => validFloor_any a b A n c cl W ((hr.below hb).more hb.size) hn)
  have V2 := Lib.hid (fun W (hb : Below w.heap.size w W) => refAbsent_any m W (hm.go hb))
  have E : Hid (checkTeamS a b cl t m.tm = if floorB a b cl then (if 0 ≤ t ∧ t < 3 then (if m.tm.absB || m.tm.validB cl t then 0 else 70) else 2) else 50) := Lib.hid rfl
  cases hv : floorB a b cl
  · rw [hv] at V1 E
    simp only [Bool.false_eq_true, if_false] at E
    clear hv hr hm V2
    go_enter Try.func36, Try.ntmps36
    go_upto_region 1 with fail
    generalize World.alloc _ _ = X at FT ⊢
    have f0 := FT.out.kf.cellv 0 (v := .int .i64 a) rfl
    have f1 := FT.out.kf.cellv 1 (v := .int .i64 b) rfl
    have f2 := FT.out.kf.cellv 2 (v := .slice A n c) rfl
    have c0 := FT.out.kt.cellv 0 (v := .slice m.hA m.hn m.hc) rfl
    have c1 := FT.out.kt.cellv 1 (v := .slice m.pA m.pn m.pc) rfl
    have c2 := FT.out.kt.cellv 2 (v := .slice m.dA m.dn m.dc) rfl
    have c3 := FT.out.kt.cellv 3 (v := .int .i64 m.tm.lo) rfl
    have c4 := FT.out.kt.cellv 4 (v := .int .i64 m.tm.un) rfl
    have c5 := FT.out.kt.cellv 5 (v := .int .i64 m.tm.qu) rfl
    have c6 := FT.out.kt.cellv 6 (v := .int .i64 m.tm.qt) rfl
    have c7 := FT.out.kt.cellv 7 (v := .int .i64 m.tm.wi) rfl
    go_wp2_with fail
    refine (V1.out _ FT.out.bel).mono ?_
    rintro e x ⟨rfl, hb⟩
    replace FT := Lib.hid (FT.out.next hb)
    clear hb
    clear f0 f1 f2 c0 c1 c2 c3 c4 c5 c6 c7
    have f0 := FT.out.kf.cellv 0 (v := .int .i64 a) rfl
    have f1 := FT.out.kf.cellv 1 (v := .int .i64 b) rfl
    have f2 := FT.out.kf.cellv 2 (v := .slice A n c) rfl
    have c0 := FT.out.kt.cellv 0 (v := .slice m.hA m.hn m.hc) rfl
    have c1 := FT.out.kt.cellv 1 (v := .slice m.pA m.pn m.pc) rfl
    have c2 := FT.out.kt.cellv 2 (v := .slice m.dA m.dn m.dc) rfl
    have c3 := FT.out.kt.cellv 3 (v := .int .i64 m.tm.lo) rfl
    have c4 := FT.out.kt.cellv 4 (v := .int .i64 m.tm.un) rfl
    have c5 := FT.out.kt.cellv 5 (v := .int .i64 m.tm.qu) rfl
    have c6 := FT.out.kt.cellv 6 (v := .int .i64 m.tm.qt) rfl
    have c7 := FT.out.kt.cellv 7 (v := .int .i64 m.tm.wi) rfl
    go_wp2
    go_ret
    exact ⟨by rw [E.out]; rfl, FT.out.bel⟩
  · rw [hv] at V1 E
    simp only [if_true] at E
    by_cases t0 : t < 0
    · have d1 : decide (t < 0) = true := decide_eq_true t0
      have E2 := E.out
      rw [if_neg (by omega)] at E2
      replace E := Lib.hid E2
      clear E2 t0 hv hr hm V2
      go_enter Try.func36, Try.ntmps36
      go_upto_region 1 with fail
      generalize World.alloc _ _ = X at FT ⊢
      have f0 := FT.out.kf.cellv 0 (v := .int .i64 a) rfl
      have f1 := FT.out.kf.cellv 1 (v := .int .i64 b) rfl
      have f2 := FT.out.kf.cellv 2 (v := .slice A n c) rfl
      have c0 := FT.out.kt.cellv 0 (v := .slice m.hA m.hn m.hc) rfl
      have c1 := FT.out.kt.cellv 1 (v := .slice m.pA m.pn m.pc) rfl
      have c2 := FT.out.kt.cellv 2 (v := .slice m.dA m.dn m.dc) rfl
      have c3 := FT.out.kt.cellv 3 (v := .int .i64 m.tm.lo) rfl
      have c4 := FT.out.kt.cellv 4 (v := .int .i64 m.tm.un) rfl
      have c5 := FT.out.kt.cellv 5 (v := .int .i64 m.tm.qu) rfl
      have c6 := FT.out.kt.cellv 6 (v := .int .i64 m.tm.qt) rfl
      have c7 := FT.out.kt.cellv 7 (v := .int .i64 m.tm.wi) rfl
      go_wp2_with fail
      refine (V1.out _ FT.out.bel).mono ?_
      rintro e x ⟨rfl, hb⟩
      replace FT := Lib.hid (FT.out.next hb)
      clear hb
      clear f0 f1 f2 c0 c1 c2 c3 c4 c5 c6 c7
      have f0 := FT.out.kf.cellv 0 (v := .int .i64 a) rfl
      have f1 := FT.out.kf.cellv 1 (v := .int .i64 b) rfl
      have f2 := FT.out.kf.cellv 2 (v := .slice A n c) rfl
      have c0 := FT.out.kt.cellv 0 (v := .slice m.hA m.hn m.hc) rfl
      have c1 := FT.out.kt.cellv 1 (v := .slice m.pA m.pn m.pc) rfl
      have c2 := FT.out.kt.cellv 2 (v := .slice m.dA m.dn m.dc) rfl
      have c3 := FT.out.kt.cellv 3 (v := .int .i64 m.tm.lo) rfl
      have c4 := FT.out.kt.cellv 4 (v := .int .i64 m.tm.un) rfl
      have c5 := FT.out.kt.cellv 5 (v := .int .i64 m.tm.qu) rfl
      have c6 := FT.out.kt.cellv 6 (v := .int .i64 m.tm.qt) rfl
      have c7 := FT.out.kt.cellv 7 (v := .int .i64 m.tm.wi) rfl
      go_wp2
      go_ret
      exact ⟨by rw [E.out]; rfl, FT.out.bel⟩
    · have d1 : decide (t < 0) = false := decide_eq_false t0
      by_cases t3 : t ≥ 3
      · have d2 : decide (t ≥ 3) = true := decide_eq_true t3
        have E2 := E.out
        rw [if_neg (by omega)] at E2
        replace E := Lib.hid E2
        clear E2 t0 t3 hv hr hm V2
        go_enter Try.func36, Try.ntmps36
        go_upto_region 1 with fail
        generalize World.alloc _ _ = X at FT ⊢
        have f0 := FT.out.kf.cellv 0 (v := .int .i64 a) rfl
        have f1 := FT.out.kf.cellv 1 (v := .int .i64 b) rfl
        have f2 := FT.out.kf.cellv 2 (v := .slice A n c) rfl
        have c0 := FT.out.kt.cellv 0 (v := .slice m.hA m.hn m.hc) rfl
        have c1 := FT.out.kt.cellv 1 (v := .slice m.pA m.pn m.pc) rfl
        have c2 := FT.out.kt.cellv 2 (v := .slice m.dA m.dn m.dc) rfl
        have c3 := FT.out.kt.cellv 3 (v := .int .i64 m.tm.lo) rfl
        have c4 := FT.out.kt.cellv 4 (v := .int .i64 m.tm.un) rfl
        have c5 := FT.out.kt.cellv 5 (v := .int .i64 m.tm.qu) rfl
        have c6 := FT.out.kt.cellv 6 (v := .int .i64 m.tm.qt) rfl
        have c7 := FT.out.kt.cellv 7 (v := .int .i64 m.tm.wi) rfl
        go_wp2_with fail
        refine (V1.out _ FT.out.bel).mono ?_
        rintro e x ⟨rfl, hb⟩
        replace FT := Lib.hid (FT.out.next hb)
        clear hb
        clear f0 f1 f2 c0 c1 c2 c3 c4 c5 c6 c7
        have f0 := FT.out.kf.cellv 0 (v := .int .i64 a) rfl
        have f1 := FT.out.kf.cellv 1 (v := .int .i64 b) rfl
        have f2 := FT.out.kf.cellv 2 (v := .slice A n c) rfl
        have c0 := FT.out.kt.cellv 0 (v := .slice m.hA m.hn m.hc) rfl
        have c1 := FT.out.kt.cellv 1 (v := .slice m.pA m.pn m.pc) rfl
        have c2 := FT.out.kt.cellv 2 (v := .slice m.dA m.dn m.dc) rfl
        have c3 := FT.out.kt.cellv 3 (v := .int .i64 m.tm.lo) rfl
        have c4 := FT.out.kt.cellv 4 (v := .int .i64 m.tm.un) rfl
        have c5 := FT.out.kt.cellv 5 (v := .int .i64 m.tm.qu) rfl
        have c6 := FT.out.kt.cellv 6 (v := .int .i64 m.tm.qt) rfl
        have c7 := FT.out.kt.cellv 7 (v := .int .i64 m.tm.wi) rfl
        go_wp2
        go_ret
        exact ⟨by rw [E.out]; rfl, FT.out.bel⟩
      · have d2 : decide (t ≥ 3) = false := decide_eq_false t3
        have E2 := E.out
        rw [if_pos (by omega)] at E2
        replace E := Lib.hid E2
        clear E2
        have V4 := Lib.hid (fun W (hb : Below w.heap.size w W) => validTeam_any a b A n c cl t m W ((hr.below hb).more hb.size) hn hv (by omega) (hm.go hb))
        generalize m.tm.validB cl t = R at V4 E
        clear t0 t3 hv hr hm
        cases hab : m.tm.absB
        · rw [hab] at V2 E
          rw [Bool.false_or] at E
          clear hab
          cases R
          · go_enter Try.func36, Try.ntmps36
            go_upto_region 1 with fail
            generalize World.alloc _ _ = X at FT ⊢
            have f0 := FT.out.kf.cellv 0 (v := .int .i64 a) rfl
            have f1 := FT.out.kf.cellv 1 (v := .int .i64 b) rfl
            have f2 := FT.out.kf.cellv 2 (v := .slice A n c) rfl
            have c0 := FT.out.kt.cellv 0 (v := .slice m.hA m.hn m.hc) rfl
            have c1 := FT.out.kt.cellv 1 (v := .slice m.pA m.pn m.pc) rfl
            have c2 := FT.out.kt.cellv 2 (v := .slice m.dA m.dn m.dc) rfl
            have c3 := FT.out.kt.cellv 3 (v := .int .i64 m.tm.lo) rfl
            have c4 := FT.out.kt.cellv 4 (v := .int .i64 m.tm.un) rfl
            have c5 := FT.out.kt.cellv 5 (v := .int .i64 m.tm.qu) rfl
            have c6 := FT.out.kt.cellv 6 (v := .int .i64 m.tm.qt) rfl
            have c7 := FT.out.kt.cellv 7 (v := .int .i64 m.tm.wi) rfl
            go_wp2_with fail
            refine (V1.out _ FT.out.bel).mono ?_
            rintro e x ⟨rfl, hb⟩
            replace FT := Lib.hid (FT.out.next hb)
            clear hb
            clear f0 f1 f2 c0 c1 c2 c3 c4 c5 c6 c7
            have f0 := FT.out.kf.cellv 0 (v := .int .i64 a) rfl
            have f1 := FT.out.kf.cellv 1 (v := .int .i64 b) rfl
            have f2 := FT.out.kf.cellv 2 (v := .slice A n c) rfl
            have c0 := FT.out.kt.cellv 0 (v := .slice m.hA m.hn m.hc) rfl
            have c1 := FT.out.kt.cellv 1 (v := .slice m.pA m.pn m.pc) rfl
            have c2 := FT.out.kt.cellv 2 (v := .slice m.dA m.dn m.dc) rfl
            have c3 := FT.out.kt.cellv 3 (v := .int .i64 m.tm.lo) rfl
            have c4 := FT.out.kt.cellv 4 (v := .int .i64 m.tm.un) rfl
            have c5 := FT.out.kt.cellv 5 (v := .int .i64 m.tm.qu) rfl
            have c6 := FT.out.kt.cellv 6 (v := .int .i64 m.tm.qt) rfl
            have c7 := FT.out.kt.cellv 7 (v := .int .i64 m.tm.wi) rfl
            go_wp2_with fail
            refine (V2.out _ FT.out.bel).mono ?_
            rintro e x ⟨rfl, hb⟩
            replace FT := Lib.hid (FT.out.next hb)
            clear hb
            clear f0 f1 f2 c0 c1 c2 c3 c4 c5 c6 c7
            have f0 := FT.out.kf.cellv 0 (v := .int .i64 a) rfl
            have f1 := FT.out.kf.cellv 1 (v := .int .i64 b) rfl
            have f2 := FT.out.kf.cellv 2 (v := .slice A n c) rfl
            have c0 := FT.out.kt.cellv 0 (v := .slice m.hA m.hn m.hc) rfl
            have c1 := FT.out.kt.cellv 1 (v := .slice m.pA m.pn m.pc) rfl
            have c2 := FT.out.kt.cellv 2 (v := .slice m.dA m.dn m.dc) rfl
            have c3 := FT.out.kt.cellv 3 (v := .int .i64 m.tm.lo) rfl
            have c4 := FT.out.kt.cellv 4 (v := .int .i64 m.tm.un) rfl
            have c5 := FT.out.kt.cellv 5 (v := .int .i64 m.tm.qu) rfl
            have c6 := FT.out.kt.cellv 6 (v := .int .i64 m.tm.qt) rfl
            have c7 := FT.out.kt.cellv 7 (v := .int .i64 m.tm.wi) rfl
            go_wp2_with fail
            refine (V4.out _ FT.out.bel).mono ?_
            rintro e x ⟨rfl, hb⟩
            replace FT := Lib.hid (FT.out.next hb)
            clear hb
            clear f0 f1 f2 c0 c1 c2 c3 c4 c5 c6 c7
            have f0 := FT.out.kf.cellv 0 (v := .int .i64 a) rfl
            have f1 := FT.out.kf.cellv 1 (v := .int .i64 b) rfl
            have f2 := FT.out.kf.cellv 2 (v := .slice A n c) rfl
            have c0 := FT.out.kt.cellv 0 (v := .slice m.hA m.hn m.hc) rfl
            have c1 := FT.out.kt.cellv 1 (v := .slice m.pA m.pn m.pc) rfl
            have c2 := FT.out.kt.cellv 2 (v := .slice m.dA m.dn m.dc) rfl
            have c3 := FT.out.kt.cellv 3 (v := .int .i64 m.tm.lo) rfl
            have c4 := FT.out.kt.cellv 4 (v := .int .i64 m.tm.un) rfl
            have c5 := FT.out.kt.cellv 5 (v := .int .i64 m.tm.qu) rfl
            have c6 := FT.out.kt.cellv 6 (v := .int .i64 m.tm.qt) rfl
            have c7 := FT.out.kt.cellv 7 (v := .int .i64 m.tm.wi) rfl
            go_wp2
            go_ret
            exact ⟨by rw [E.out]; rfl, FT.out.bel⟩
          · go_enter Try.func36, Try.ntmps36
            go_upto_region 1 with fail
            generalize World.alloc _ _ = X at FT ⊢
            have f0 := FT.out.kf.cellv 0 (v := .int .i64 a) rfl
            have f1 := FT.out.kf.cellv 1 (v := .int .i64 b) rfl
            have f2 := FT.out.kf.cellv 2 (v := .slice A n c) rfl
            have c0 := FT.out.kt.cellv 0 (v := .slice m.hA m.hn m.hc) rfl
            have c1 := FT.out.kt.cellv 1 (v := .slice m.pA m.pn m.pc) rfl
            have c2 := FT.out.kt.cellv 2 (v := .slice m.dA m.dn m.dc) rfl
            have c3 := FT.out.kt.cellv 3 (v := .int .i64 m.tm.lo) rfl
            have c4 := FT.out.kt.cellv 4 (v := .int .i64 m.tm.un) rfl
            have c5 := FT.out.kt.cellv 5 (v := .int .i64 m.tm.qu) rfl
            have c6 := FT.out.kt.cellv 6 (v := .int .i64 m.tm.qt) rfl
            have c7 := FT.out.kt.cellv 7 (v := .int .i64 m.tm.wi) rfl
            go_wp2_with fail
            refine (V1.out _ FT.out.bel).mono ?_
            rintro e x ⟨rfl, hb⟩
            replace FT := Lib.hid (FT.out.next hb)
            clear hb
            clear f0 f1 f2 c0 c1 c2 c3 c4 c5 c6 c7
            have f0 := FT.out.kf.cellv 0 (v := .int .i64 a) rfl
            have f1 := FT.out.kf.cellv 1 (v := .int .i64 b) rfl
            have f2 := FT.out.kf.cellv 2 (v := .slice A n c) rfl
            have c0 := FT.out.kt.cellv 0 (v := .slice m.hA m.hn m.hc) rfl
            have c1 := FT.out.kt.cellv 1 (v := .slice m.pA m.pn m.pc) rfl
            have c2 := FT.out.kt.cellv 2 (v := .slice m.dA m.dn m.dc) rfl
            have c3 := FT.out.kt.cellv 3 (v := .int .i64 m.tm.lo) rfl
            have c4 := FT.out.kt.cellv 4 (v := .int .i64 m.tm.un) rfl
            have c5 := FT.out.kt.cellv 5 (v := .int .i64 m.tm.qu) rfl
            have c6 := FT.out.kt.cellv 6 (v := .int .i64 m.tm.qt) rfl
            have c7 := FT.out.kt.cellv 7 (v := .int .i64 m.tm.wi) rfl
            go_wp2_with fail
            refine (V2.out _ FT.out.bel).mono ?_
            rintro e x ⟨rfl, hb⟩
            replace FT := Lib.hid (FT.out.next hb)
            clear hb
            clear f0 f1 f2 c0 c1 c2 c3 c4 c5 c6 c7
            have f0 := FT.out.kf.cellv 0 (v := .int .i64 a) rfl
            have f1 := FT.out.kf.cellv 1 (v := .int .i64 b) rfl
            have f2 := FT.out.kf.cellv 2 (v := .slice A n c) rfl
            have c0 := FT.out.kt.cellv 0 (v := .slice m.hA m.hn m.hc) rfl
            have c1 := FT.out.kt.cellv 1 (v := .slice m.pA m.pn m.pc) rfl
            have c2 := FT.out.kt.cellv 2 (v := .slice m.dA m.dn m.dc) rfl
            have c3 := FT.out.kt.cellv 3 (v := .int .i64 m.tm.lo) rfl
            have c4 := FT.out.kt.cellv 4 (v := .int .i64 m.tm.un) rfl
            have c5 := FT.out.kt.cellv 5 (v := .int .i64 m.tm.qu) rfl
            have c6 := FT.out.kt.cellv 6 (v := .int .i64 m.tm.qt) rfl
            have c7 := FT.out.kt.cellv 7 (v := .int .i64 m.tm.wi) rfl
            go_wp2_with fail
            refine (V4.out _ FT.out.bel).mono ?_
            rintro e x ⟨rfl, hb⟩
            replace FT := Lib.hid (FT.out.next hb)
            clear hb
            clear f0 f1 f2 c0 c1 c2 c3 c4 c5 c6 c7
            have f0 := FT.out.kf.cellv 0 (v := .int .i64 a) rfl
            have f1 := FT.out.kf.cellv 1 (v := .int .i64 b) rfl
            have f2 := FT.out.kf.cellv 2 (v := .slice A n c) rfl
            have c0 := FT.out.kt.cellv 0 (v := .slice m.hA m.hn m.hc) rfl
            have c1 := FT.out.kt.cellv 1 (v := .slice m.pA m.pn m.pc) rfl
            have c2 := FT.out.kt.cellv 2 (v := .slice m.dA m.dn m.dc) rfl
            have c3 := FT.out.kt.cellv 3 (v := .int .i64 m.tm.lo) rfl
            have c4 := FT.out.kt.cellv 4 (v := .int .i64 m.tm.un) rfl
            have c5 := FT.out.kt.cellv 5 (v := .int .i64 m.tm.qu) rfl
            have c6 := FT.out.kt.cellv 6 (v := .int .i64 m.tm.qt) rfl
            have c7 := FT.out.kt.cellv 7 (v := .int .i64 m.tm.wi) rfl
            go_wp2
            go_ret
            exact ⟨by rw [E.out]; rfl, FT.out.bel⟩
        · rw [hab] at V2 E
          rw [Bool.true_or] at E
          clear hab V4
          go_enter Try.func36, Try.ntmps36
          go_upto_region 1 with fail
          generalize World.alloc _ _ = X at FT ⊢
          have f0 := FT.out.kf.cellv 0 (v := .int .i64 a) rfl
          have f1 := FT.out.kf.cellv 1 (v := .int .i64 b) rfl
          have f2 := FT.out.kf.cellv 2 (v := .slice A n c) rfl
          have c0 := FT.out.kt.cellv 0 (v := .slice m.hA m.hn m.hc) rfl
          have c1 := FT.out.kt.cellv 1 (v := .slice m.pA m.pn m.pc) rfl
          have c2 := FT.out.kt.cellv 2 (v := .slice m.dA m.dn m.dc) rfl
          have c3 := FT.out.kt.cellv 3 (v := .int .i64 m.tm.lo) rfl
          have c4 := FT.out.kt.cellv 4 (v := .int .i64 m.tm.un) rfl
          have c5 := FT.out.kt.cellv 5 (v := .int .i64 m.tm.qu) rfl
          have c6 := FT.out.kt.cellv 6 (v := .int .i64 m.tm.qt) rfl
          have c7 := FT.out.kt.cellv 7 (v := .int .i64 m.tm.wi) rfl
          go_wp2_with fail
          refine (V1.out _ FT.out.bel).mono ?_
          rintro e x ⟨rfl, hb⟩
          replace FT := Lib.hid (FT.out.next hb)
          clear hb
          clear f0 f1 f2 c0 c1 c2 c3 c4 c5 c6 c7
          have f0 := FT.out.kf.cellv 0 (v := .int .i64 a) rfl
          have f1 := FT.out.kf.cellv 1 (v := .int .i64 b) rfl
          have f2 := FT.out.kf.cellv 2 (v := .slice A n c) rfl
          have c0 := FT.out.kt.cellv 0 (v := .slice m.hA m.hn m.hc) rfl
          have c1 := FT.out.kt.cellv 1 (v := .slice m.pA m.pn m.pc) rfl
          have c2 := FT.out.kt.cellv 2 (v := .slice m.dA m.dn m.dc) rfl
          have c3 := FT.out.kt.cellv 3 (v := .int .i64 m.tm.lo) rfl
          have c4 := FT.out.kt.cellv 4 (v := .int .i64 m.tm.un) rfl
          have c5 := FT.out.kt.cellv 5 (v := .int .i64 m.tm.qu) rfl
          have c6 := FT.out.kt.cellv 6 (v := .int .i64 m.tm.qt) rfl
          have c7 := FT.out.kt.cellv 7 (v := .int .i64 m.tm.wi) rfl
          go_wp2_with fail
          refine (V2.out _ FT.out.bel).mono ?_
          rintro e x ⟨rfl, hb⟩
          replace FT := Lib.hid (FT.out.next hb)
          clear hb
          clear f0 f1 f2 c0 c1 c2 c3 c4 c5 c6 c7
          have f0 := FT.out.kf.cellv 0 (v := .int .i64 a) rfl
          have f1 := FT.out.kf.cellv 1 (v := .int .i64 b) rfl
          have f2 := FT.out.kf.cellv 2 (v := .slice A n c) rfl
          have c0 := FT.out.kt.cellv 0 (v := .slice m.hA m.hn m.hc) rfl
          have c1 := FT.out.kt.cellv 1 (v := .slice m.pA m.pn m.pc) rfl
          have c2 := FT.out.kt.cellv 2 (v := .slice m.dA m.dn m.dc) rfl
          have c3 := FT.out.kt.cellv 3 (v := .int .i64 m.tm.lo) rfl
          have c4 := FT.out.kt.cellv 4 (v := .int .i64 m.tm.un) rfl
          have c5 := FT.out.kt.cellv 5 (v := .int .i64 m.tm.qu) rfl
          have c6 := FT.out.kt.cellv 6 (v := .int .i64 m.tm.qt) rfl
          have c7 := FT.out.kt.cellv 7 (v := .int .i64 m.tm.wi) rfl
          go_wp2
          go_ret
          exact ⟨by rw [E.out]; rfl, FT.out.bel⟩
end Go.Proofs.Ytcbghchciplfcaa
