/-
  CFGTEN: Present, Tenants (both).
-/
import Derived.Test.YtcbghchciplfcaaCfgRefT
namespace Go.Proofs.Ytcbghchciplfcaa
set_option linter.unusedVariables false
set_option linter.unusedSimpArgs false
set_option maxRecDepth 100000
open Go.RowKit

def presentS (c : Cfg) (t : Int) : Bool × Int := if c.chk = 0 then (if 0 ≤ t ∧ t < (c.ts.length : Int) then (presB c.ts t, 0) else (false, 2)) else (false, c.chk)
def tenTo (ts : List Team) : Nat → List Int
  | 0 => []
  | k + 1 => tenTo ts k ++ (if presB ts (k : Int) then [(k : Int)] else [])
theorem tenTo_le (ts : List Team) : ∀ k, (tenTo ts k).length ≤ k
  | 0 => Nat.le_refl _
  | k + 1 => by
    have := tenTo_le ts k
    unfold tenTo
    split <;> simp <;> omega
def tenantsS (c : Cfg) : List Int × Int := if c.chk = 0 then (tenTo c.ts c.ts.length, 0) else ([], c.chk)
set_option maxHeartbeats 1600000 in
theorem present_any (c : Cm) (t : Int) (w : World) (hc : c.In w w.heap.size) :
    Calls Try.prog 25 #[c.val, .int .i64 t] w fun e w' => e = .returned (.tuple #[.bool (presentS c.cf t).1, .int .i64 (presentS c.cf t).2]) ∧ Below w.heap.size w w' := by
  have CB := Lib.hid (cbox w c)
  have hl2 : c.cf.ts.length = c.tn := by rw [← hc.len]; simp [Cm.cf]
  have V1 := Lib.hid (fun W (hb : Below w.heap.size w W) => check3_any c W (hc.go hb))
  have V2 := Lib.hid (fun W (hb : Below w.heap.size w W) => isPresent_any c t W (hc.go hb))
  by_cases h0 : c.cf.chk = 0
  · have E : presentS c.cf t = if 0 ≤ t ∧ t < (c.tn : Int) then (presB c.cf.ts t, 0) else (false, 2) := by unfold presentS; rw [if_pos h0, hl2]
    rw [E]
    rw [h0] at V1
    by_cases t0 : t < 0
    · have d1 : decide (t < 0) = true := decide_eq_true t0
      rw [if_neg (by omega)]
      clear t0 E h0 hl2 hc V2
      go_enter Try.func25, Try.ntmps25
      go_upto_region 1 with fail
      generalize World.alloc _ _ = X at CB ⊢
      have c0 := CB.out.kf.cellv 0 (v := .int .i64 c.a) rfl
      have c1 := CB.out.kf.cellv 1 (v := .int .i64 c.b) rfl
      have c2 := CB.out.kf.cellv 2 (v := .slice c.fA c.fn c.fc) rfl
      have c3 := CB.out.kf.cellv 3 (v := .slice c.sA c.sn c.sc) rfl
      have c4 := CB.out.kf.cellv 4 (v := .slice c.tA c.tn c.tc) rfl
      have c5 := CB.out.kf.cellv 5 (v := .int .u64 (c.st : Int)) rfl
      go_wp2_with fail
      refine (V1.out _ CB.out.bel).mono ?_
      rintro e x ⟨rfl, hb⟩
      replace CB := Lib.hid (CB.out.next hb)
      clear hb
      clear c0 c1 c2 c3 c4 c5
      have c0 := CB.out.kf.cellv 0 (v := .int .i64 c.a) rfl
      have c1 := CB.out.kf.cellv 1 (v := .int .i64 c.b) rfl
      have c2 := CB.out.kf.cellv 2 (v := .slice c.fA c.fn c.fc) rfl
      have c3 := CB.out.kf.cellv 3 (v := .slice c.sA c.sn c.sc) rfl
      have c4 := CB.out.kf.cellv 4 (v := .slice c.tA c.tn c.tc) rfl
      have c5 := CB.out.kf.cellv 5 (v := .int .u64 (c.st : Int)) rfl
      go_wp2
      go_ret2
      exact ⟨by first | rfl | (simp; done), CB.out.bel⟩
    · have d1 : decide (t < 0) = false := decide_eq_false t0
      by_cases t1 : t ≥ (c.tn : Int)
      · have d2 : decide (t ≥ (c.tn : Int)) = true := decide_eq_true t1
        rw [if_neg (by omega)]
        clear t0 t1 E h0 hl2 hc V2
        go_enter Try.func25, Try.ntmps25
        go_upto_region 1 with fail
        generalize World.alloc _ _ = X at CB ⊢
        have c0 := CB.out.kf.cellv 0 (v := .int .i64 c.a) rfl
        have c1 := CB.out.kf.cellv 1 (v := .int .i64 c.b) rfl
        have c2 := CB.out.kf.cellv 2 (v := .slice c.fA c.fn c.fc) rfl
        have c3 := CB.out.kf.cellv 3 (v := .slice c.sA c.sn c.sc) rfl
        have c4 := CB.out.kf.cellv 4 (v := .slice c.tA c.tn c.tc) rfl
        have c5 := CB.out.kf.cellv 5 (v := .int .u64 (c.st : Int)) rfl
        go_wp2_with fail
        refine (V1.out _ CB.out.bel).mono ?_
        rintro e x ⟨rfl, hb⟩
        replace CB := Lib.hid (CB.out.next hb)
        clear hb
        clear c0 c1 c2 c3 c4 c5
        have c0 := CB.out.kf.cellv 0 (v := .int .i64 c.a) rfl
        have c1 := CB.out.kf.cellv 1 (v := .int .i64 c.b) rfl
        have c2 := CB.out.kf.cellv 2 (v := .slice c.fA c.fn c.fc) rfl
        have c3 := CB.out.kf.cellv 3 (v := .slice c.sA c.sn c.sc) rfl
        have c4 := CB.out.kf.cellv 4 (v := .slice c.tA c.tn c.tc) rfl
        have c5 := CB.out.kf.cellv 5 (v := .int .u64 (c.st : Int)) rfl
        go_wp2
        go_ret2
        exact ⟨by first | rfl | (simp; done), CB.out.bel⟩
      · have d2 : decide (t ≥ (c.tn : Int)) = false := decide_eq_false t1
        rw [if_pos (by omega)]
        generalize presB c.cf.ts t = R at V2 ⊢
        clear t0 t1 E h0 hl2 hc
        go_enter Try.func25, Try.ntmps25
        go_upto_region 1 with fail
        generalize World.alloc _ _ = X at CB ⊢
        have c0 := CB.out.kf.cellv 0 (v := .int .i64 c.a) rfl
        have c1 := CB.out.kf.cellv 1 (v := .int .i64 c.b) rfl
        have c2 := CB.out.kf.cellv 2 (v := .slice c.fA c.fn c.fc) rfl
        have c3 := CB.out.kf.cellv 3 (v := .slice c.sA c.sn c.sc) rfl
        have c4 := CB.out.kf.cellv 4 (v := .slice c.tA c.tn c.tc) rfl
        have c5 := CB.out.kf.cellv 5 (v := .int .u64 (c.st : Int)) rfl
        go_wp2_with fail
        refine (V1.out _ CB.out.bel).mono ?_
        rintro e x ⟨rfl, hb⟩
        replace CB := Lib.hid (CB.out.next hb)
        clear hb
        clear c0 c1 c2 c3 c4 c5
        have c0 := CB.out.kf.cellv 0 (v := .int .i64 c.a) rfl
        have c1 := CB.out.kf.cellv 1 (v := .int .i64 c.b) rfl
        have c2 := CB.out.kf.cellv 2 (v := .slice c.fA c.fn c.fc) rfl
        have c3 := CB.out.kf.cellv 3 (v := .slice c.sA c.sn c.sc) rfl
        have c4 := CB.out.kf.cellv 4 (v := .slice c.tA c.tn c.tc) rfl
        have c5 := CB.out.kf.cellv 5 (v := .int .u64 (c.st : Int)) rfl
        go_wp2_with fail
        refine (V2.out _ CB.out.bel).mono ?_
        rintro e x ⟨rfl, hb⟩
        replace CB := Lib.hid (CB.out.next hb)
        clear hb
        clear c0 c1 c2 c3 c4 c5
        have c0 := CB.out.kf.cellv 0 (v := .int .i64 c.a) rfl
        have c1 := CB.out.kf.cellv 1 (v := .int .i64 c.b) rfl
        have c2 := CB.out.kf.cellv 2 (v := .slice c.fA c.fn c.fc) rfl
        have c3 := CB.out.kf.cellv 3 (v := .slice c.sA c.sn c.sc) rfl
        have c4 := CB.out.kf.cellv 4 (v := .slice c.tA c.tn c.tc) rfl
        have c5 := CB.out.kf.cellv 5 (v := .int .u64 (c.st : Int)) rfl
        go_wp2
        go_ret2
        exact ⟨by first | rfl | (simp; done), CB.out.bel⟩
  · have d0 : (c.cf.chk != 0) = true := by simpa using h0
    rw [show presentS c.cf t = (false, c.cf.chk) from by unfold presentS; rw [if_neg h0]]
    generalize c.cf.chk = E at V1 d0 ⊢
    clear h0 hl2 hc V2
    go_enter Try.func25, Try.ntmps25
    go_upto_region 1 with fail
    generalize World.alloc _ _ = X at CB ⊢
    have c0 := CB.out.kf.cellv 0 (v := .int .i64 c.a) rfl
    have c1 := CB.out.kf.cellv 1 (v := .int .i64 c.b) rfl
    have c2 := CB.out.kf.cellv 2 (v := .slice c.fA c.fn c.fc) rfl
    have c3 := CB.out.kf.cellv 3 (v := .slice c.sA c.sn c.sc) rfl
    have c4 := CB.out.kf.cellv 4 (v := .slice c.tA c.tn c.tc) rfl
    have c5 := CB.out.kf.cellv 5 (v := .int .u64 (c.st : Int)) rfl
    go_wp2_with fail
    refine (V1.out _ CB.out.bel).mono ?_
    rintro e x ⟨rfl, hb⟩
    replace CB := Lib.hid (CB.out.next hb)
    clear hb
    clear c0 c1 c2 c3 c4 c5
    have c0 := CB.out.kf.cellv 0 (v := .int .i64 c.a) rfl
    have c1 := CB.out.kf.cellv 1 (v := .int .i64 c.b) rfl
    have c2 := CB.out.kf.cellv 2 (v := .slice c.fA c.fn c.fc) rfl
    have c3 := CB.out.kf.cellv 3 (v := .slice c.sA c.sn c.sc) rfl
    have c4 := CB.out.kf.cellv 4 (v := .slice c.tA c.tn c.tc) rfl
    have c5 := CB.out.kf.cellv 5 (v := .int .u64 (c.st : Int)) rfl
    go_wp2
    go_ret2
    exact ⟨by first | rfl | (simp; done), CB.out.bel⟩
set_option maxHeartbeats 1600000 in
theorem presence_any (c : Cm) (t : Int) (w : World) (hc : c.In w w.heap.size) :
    Calls Try.prog 39 #[c.val, .int .i64 t] w fun e w' => e = .returned (.tuple #[.bool (presentS c.cf t).1, .int .i64 (presentS c.cf t).2]) ∧ Below w.heap.size w w' := by
  have CB := Lib.hid (cbox w c)
  have hl2 : c.cf.ts.length = c.tn := by rw [← hc.len]; simp [Cm.cf]
  have V1 := Lib.hid (fun W (hb : Below w.heap.size w W) => refCheck3_any c W (hc.go hb))
  have V2 := Lib.hid (fun W (hb : Below w.heap.size w W) => refPresent_any c t W (hc.go hb))
  by_cases h0 : c.cf.chk = 0
  · have E : presentS c.cf t = if 0 ≤ t ∧ t < (c.tn : Int) then (presB c.cf.ts t, 0) else (false, 2) := by unfold presentS; rw [if_pos h0, hl2]
    rw [E]
    rw [h0] at V1
    by_cases t0 : t < 0
    · have d1 : decide (t < 0) = true := decide_eq_true t0
      rw [if_neg (by omega)]
      clear t0 E h0 hl2 hc V2
      go_enter Try.func39, Try.ntmps39
      go_upto_region 1 with fail
      generalize World.alloc _ _ = X at CB ⊢
      have c0 := CB.out.kf.cellv 0 (v := .int .i64 c.a) rfl
      have c1 := CB.out.kf.cellv 1 (v := .int .i64 c.b) rfl
      have c2 := CB.out.kf.cellv 2 (v := .slice c.fA c.fn c.fc) rfl
      have c3 := CB.out.kf.cellv 3 (v := .slice c.sA c.sn c.sc) rfl
      have c4 := CB.out.kf.cellv 4 (v := .slice c.tA c.tn c.tc) rfl
      have c5 := CB.out.kf.cellv 5 (v := .int .u64 (c.st : Int)) rfl
      go_wp2_with fail
      refine (V1.out _ CB.out.bel).mono ?_
      rintro e x ⟨rfl, hb⟩
      replace CB := Lib.hid (CB.out.next hb)
      clear hb
      clear c0 c1 c2 c3 c4 c5
      have c0 := CB.out.kf.cellv 0 (v := .int .i64 c.a) rfl
      have c1 := CB.out.kf.cellv 1 (v := .int .i64 c.b) rfl
      have c2 := CB.out.kf.cellv 2 (v := .slice c.fA c.fn c.fc) rfl
      have c3 := CB.out.kf.cellv 3 (v := .slice c.sA c.sn c.sc) rfl
      have c4 := CB.out.kf.cellv 4 (v := .slice c.tA c.tn c.tc) rfl
      have c5 := CB.out.kf.cellv 5 (v := .int .u64 (c.st : Int)) rfl
      go_wp2
      go_ret2
      exact ⟨by first | rfl | (simp; done), CB.out.bel⟩
    · have d1 : decide (t < 0) = false := decide_eq_false t0
      by_cases t1 : t ≥ (c.tn : Int)
      · have d2 : decide (t ≥ (c.tn : Int)) = true := decide_eq_true t1
        rw [if_neg (by omega)]
        clear t0 t1 E h0 hl2 hc V2
        go_enter Try.func39, Try.ntmps39
        go_upto_region 1 with fail
        generalize World.alloc _ _ = X at CB ⊢
        have c0 := CB.out.kf.cellv 0 (v := .int .i64 c.a) rfl
        have c1 := CB.out.kf.cellv 1 (v := .int .i64 c.b) rfl
        have c2 := CB.out.kf.cellv 2 (v := .slice c.fA c.fn c.fc) rfl
        have c3 := CB.out.kf.cellv 3 (v := .slice c.sA c.sn c.sc) rfl
        have c4 := CB.out.kf.cellv 4 (v := .slice c.tA c.tn c.tc) rfl
        have c5 := CB.out.kf.cellv 5 (v := .int .u64 (c.st : Int)) rfl
        go_wp2_with fail
        refine (V1.out _ CB.out.bel).mono ?_
        rintro e x ⟨rfl, hb⟩
        replace CB := Lib.hid (CB.out.next hb)
        clear hb
        clear c0 c1 c2 c3 c4 c5
        have c0 := CB.out.kf.cellv 0 (v := .int .i64 c.a) rfl
        have c1 := CB.out.kf.cellv 1 (v := .int .i64 c.b) rfl
        have c2 := CB.out.kf.cellv 2 (v := .slice c.fA c.fn c.fc) rfl
        have c3 := CB.out.kf.cellv 3 (v := .slice c.sA c.sn c.sc) rfl
        have c4 := CB.out.kf.cellv 4 (v := .slice c.tA c.tn c.tc) rfl
        have c5 := CB.out.kf.cellv 5 (v := .int .u64 (c.st : Int)) rfl
        go_wp2
        go_ret2
        exact ⟨by first | rfl | (simp; done), CB.out.bel⟩
      · have d2 : decide (t ≥ (c.tn : Int)) = false := decide_eq_false t1
        rw [if_pos (by omega)]
        generalize presB c.cf.ts t = R at V2 ⊢
        clear t0 t1 E h0 hl2 hc
        go_enter Try.func39, Try.ntmps39
        go_upto_region 1 with fail
        generalize World.alloc _ _ = X at CB ⊢
        have c0 := CB.out.kf.cellv 0 (v := .int .i64 c.a) rfl
        have c1 := CB.out.kf.cellv 1 (v := .int .i64 c.b) rfl
        have c2 := CB.out.kf.cellv 2 (v := .slice c.fA c.fn c.fc) rfl
        have c3 := CB.out.kf.cellv 3 (v := .slice c.sA c.sn c.sc) rfl
        have c4 := CB.out.kf.cellv 4 (v := .slice c.tA c.tn c.tc) rfl
        have c5 := CB.out.kf.cellv 5 (v := .int .u64 (c.st : Int)) rfl
        go_wp2_with fail
        refine (V1.out _ CB.out.bel).mono ?_
        rintro e x ⟨rfl, hb⟩
        replace CB := Lib.hid (CB.out.next hb)
        clear hb
        clear c0 c1 c2 c3 c4 c5
        have c0 := CB.out.kf.cellv 0 (v := .int .i64 c.a) rfl
        have c1 := CB.out.kf.cellv 1 (v := .int .i64 c.b) rfl
        have c2 := CB.out.kf.cellv 2 (v := .slice c.fA c.fn c.fc) rfl
        have c3 := CB.out.kf.cellv 3 (v := .slice c.sA c.sn c.sc) rfl
        have c4 := CB.out.kf.cellv 4 (v := .slice c.tA c.tn c.tc) rfl
        have c5 := CB.out.kf.cellv 5 (v := .int .u64 (c.st : Int)) rfl
        go_wp2_with fail
        refine (V2.out _ CB.out.bel).mono ?_
        rintro e x ⟨rfl, hb⟩
        replace CB := Lib.hid (CB.out.next hb)
        clear hb
        clear c0 c1 c2 c3 c4 c5
        have c0 := CB.out.kf.cellv 0 (v := .int .i64 c.a) rfl
        have c1 := CB.out.kf.cellv 1 (v := .int .i64 c.b) rfl
        have c2 := CB.out.kf.cellv 2 (v := .slice c.fA c.fn c.fc) rfl
        have c3 := CB.out.kf.cellv 3 (v := .slice c.sA c.sn c.sc) rfl
        have c4 := CB.out.kf.cellv 4 (v := .slice c.tA c.tn c.tc) rfl
        have c5 := CB.out.kf.cellv 5 (v := .int .u64 (c.st : Int)) rfl
        go_wp2
        go_ret2
        exact ⟨by first | rfl | (simp; done), CB.out.bel⟩
  · have d0 : (c.cf.chk != 0) = true := by simpa using h0
    rw [show presentS c.cf t = (false, c.cf.chk) from by unfold presentS; rw [if_neg h0]]
    generalize c.cf.chk = E at V1 d0 ⊢
    clear h0 hl2 hc V2
    go_enter Try.func39, Try.ntmps39
    go_upto_region 1 with fail
    generalize World.alloc _ _ = X at CB ⊢
    have c0 := CB.out.kf.cellv 0 (v := .int .i64 c.a) rfl
    have c1 := CB.out.kf.cellv 1 (v := .int .i64 c.b) rfl
    have c2 := CB.out.kf.cellv 2 (v := .slice c.fA c.fn c.fc) rfl
    have c3 := CB.out.kf.cellv 3 (v := .slice c.sA c.sn c.sc) rfl
    have c4 := CB.out.kf.cellv 4 (v := .slice c.tA c.tn c.tc) rfl
    have c5 := CB.out.kf.cellv 5 (v := .int .u64 (c.st : Int)) rfl
    go_wp2_with fail
    refine (V1.out _ CB.out.bel).mono ?_
    rintro e x ⟨rfl, hb⟩
    replace CB := Lib.hid (CB.out.next hb)
    clear hb
    clear c0 c1 c2 c3 c4 c5
    have c0 := CB.out.kf.cellv 0 (v := .int .i64 c.a) rfl
    have c1 := CB.out.kf.cellv 1 (v := .int .i64 c.b) rfl
    have c2 := CB.out.kf.cellv 2 (v := .slice c.fA c.fn c.fc) rfl
    have c3 := CB.out.kf.cellv 3 (v := .slice c.sA c.sn c.sc) rfl
    have c4 := CB.out.kf.cellv 4 (v := .slice c.tA c.tn c.tc) rfl
    have c5 := CB.out.kf.cellv 5 (v := .int .u64 (c.st : Int)) rfl
    go_wp2
    go_ret2
    exact ⟨by first | rfl | (simp; done), CB.out.bel⟩
set_option maxHeartbeats 3200000 in
theorem tenants_any (c : Cm) (w : World) (hc : c.In w w.heap.size) :
    Calls Try.prog 41 #[c.val] w fun e w' => ∃ A c', e = .returned (.tuple #[.slice A (tenantsS c.cf).1.length c', .int .i64 (tenantsS c.cf).2]) ∧ Hid (w'.ownsRow w.heap.size 3 1 (.slice A (tenantsS c.cf).1.length c') (tenantsS c.cf).1.length (iv (tenantsS c.cf).1)) ∧ Below w.heap.size w w' := by
  obtain ⟨i0, hi, hz0, hz1, hz2⟩ := info_parts int_info'
  have CB := Lib.hid (cbox w c)
  have hl2 : c.cf.ts.length = c.tn := by rw [← hc.len]; simp [Cm.cf]
  have tb := hc.t1.2
  have V1 := Lib.hid (fun W (hb : Below w.heap.size w W) => check3_any c W (hc.go hb))
  have V2 := Lib.hid (fun (t : Int) W (hb : Below w.heap.size w W) => isPresent_any c t W (hc.go hb))
  by_cases h0 : c.cf.chk = 0
  · have E : tenantsS c.cf = (tenTo c.cf.ts c.tn, 0) := by unfold tenantsS; rw [if_pos h0, hl2]
    rw [E]
    rw [h0] at V1
    clear E h0 hl2 hc
    go_enter Try.func41, Try.ntmps41
    go_upto_region 1 with fail
    generalize World.alloc _ _ = X at CB ⊢
    have c0 := CB.out.kf.cellv 0 (v := .int .i64 c.a) rfl
    have c1 := CB.out.kf.cellv 1 (v := .int .i64 c.b) rfl
    have c2 := CB.out.kf.cellv 2 (v := .slice c.fA c.fn c.fc) rfl
    have c3 := CB.out.kf.cellv 3 (v := .slice c.sA c.sn c.sc) rfl
    have c4 := CB.out.kf.cellv 4 (v := .slice c.tA c.tn c.tc) rfl
    have c5 := CB.out.kf.cellv 5 (v := .int .u64 (c.st : Int)) rfl
    go_wp2_with fail
    refine (V1.out _ CB.out.bel).mono ?_
    rintro e x ⟨rfl, hb⟩
    replace CB := Lib.hid (CB.out.next hb)
    clear hb
    clear c0 c1 c2 c3 c4 c5
    have c0 := CB.out.kf.cellv 0 (v := .int .i64 c.a) rfl
    have c1 := CB.out.kf.cellv 1 (v := .int .i64 c.b) rfl
    have c2 := CB.out.kf.cellv 2 (v := .slice c.fA c.fn c.fc) rfl
    have c3 := CB.out.kf.cellv 3 (v := .slice c.sA c.sn c.sc) rfl
    have c4 := CB.out.kf.cellv 4 (v := .slice c.tA c.tn c.tc) rfl
    have c5 := CB.out.kf.cellv 5 (v := .int .u64 (c.st : Int)) rfl
    go_wp2
    clear c0 c1 c2 c3 c4 c5
    go_loopw [5, 15] (fun v i wr => ∃ (k : Nat) (TA : Option Addr) (cA : Nat), k ≤ c.tn ∧ i = .int .i64 (k : Int) ∧ v = .slice TA (tenTo c.cf.ts k).length cA ∧ Hid (wr.ownsRow (w.heap.size + 1) 3 1 (.slice TA (tenTo c.cf.ts k).length cA) (tenTo c.cf.ts k).length (iv (tenTo c.cf.ts k))) ∧ Hid (CBox w wr c) ∧ Hid (w.heap.size + 1 ≤ wr.heap.size))
      (fun _ i _ => c.tn - (intOf i).toNat)
    case atStart => exact ⟨0, none, 0, Nat.zero_le _, rfl, rfl, Lib.hid ⟨rfl, .inl ⟨rfl, rfl⟩⟩, CB, Lib.hid CB.out.kf.lt⟩
    case round =>
      clear CB
      obtain ⟨k, TA, cA, hk, rfl, rfl, how, CB, hz⟩ := hrel
      have c0 := CB.out.kf.cellv 0 (v := .int .i64 c.a) rfl
      have c1 := CB.out.kf.cellv 1 (v := .int .i64 c.b) rfl
      have c2 := CB.out.kf.cellv 2 (v := .slice c.fA c.fn c.fc) rfl
      have c3 := CB.out.kf.cellv 3 (v := .slice c.sA c.sn c.sc) rfl
      have c4 := CB.out.kf.cellv 4 (v := .slice c.tA c.tn c.tc) rfl
      have c5 := CB.out.kf.cellv 5 (v := .int .u64 (c.st : Int)) rfl
      by_cases hlt : k < c.tn
      · have k1 : (k : Int) < (c.tn : Int) := by omega
        have CALL := Lib.hid (V2.out (k : Int) wr CB.out.bel)
        have hle := tenTo_le c.cf.ts k
        have S1 : Hid (tenTo c.cf.ts (k + 1) = tenTo c.cf.ts k ++ (if presB c.cf.ts (k : Int) then [(k : Int)] else [])) := Lib.hid rfl
        cases hp : presB c.cf.ts (k : Int)
        · rw [hp] at CALL S1
          clear hp
          go_wp2_with fail
          refine CALL.out.mono ?_
          rintro e x ⟨rfl, hb⟩
          replace how := Lib.hid (own_go how.out hb)
          have hzb : Hid (w.heap.size + 1 ≤ x.heap.size) := Lib.hid (Nat.le_trans hz.out hb.size)
          replace CB := Lib.hid (CB.out.next hb)
          clear hb c0 c1 c2 c3 c4 c5
          go_wp2
          go_roundw
          case rel => exact ⟨k + 1, TA, cA, by omega, by go_num, by rw [S1.out]; simp, Lib.hid (by rw [S1.out]; simpa using how.out), CB, hzb⟩
          case measure => simp [intOf]; omega
        · rw [hp] at CALL S1
          clear hp
          go_wp2_with fail
          refine CALL.out.mono ?_
          rintro e x ⟨rfl, hb⟩
          replace how := Lib.hid (own_go how.out hb)
          have hzb : Hid (w.heap.size + 1 ≤ x.heap.size) := Lib.hid (Nat.le_trans hz.out hb.size)
          replace CB := Lib.hid (CB.out.next hb)
          clear hb c0 c1 c2 c3 c4 c5
          go_wp2_with (at_builtin; refine wpList_append_any _ rfl _ _ 22 rfl (w.heap.size + 1) 3 i0 (.int .i64 0) 1 8 Try.underlying22 hi hz0 hz1 hz2 rfl (by decide) _ _ _ rfl (how.out.alloc _) (x.heap.size + 1) _ 1 1 _ rfl (reads_new1 _ _ rfl) (iv_oneCell [_]) (by unfold maxLen; omega) (by omega) (by have := hzb.out; simp; omega) ?_; intro v1 w1 hown1 hg1 _; obtain ⟨A1, cA1, rfl, _, _, _⟩ := own_form hown1; have HO := Lib.hid hown1; have HG := Lib.hid hg1; clear hown1 hg1)
          have hX := CB.out.next (bk_alloc (Below.refl _ _) (.cells #[.int .i64 (k : Int)] 3))
          have hb2 : Below (w.heap.size + 1) (x.alloc (.cells #[.int .i64 (k : Int)] 3)) w1 := below_grow HG.out (own_ge how.out) (by have := hzb.out; simp; omega)
          have CB2 : Hid (CBox w w1 c) := Lib.hid ⟨hX.kf.below hb2 (Nat.lt_succ_self _), hX.bel.trans (hb2.mono (Nat.le_succ _))⟩
          have hz3 : Hid (w.heap.size + 1 ≤ w1.heap.size) := Lib.hid (by have := hb2.size; have := hzb.out; simp at *; omega)
          clear hX hb2
          go_roundw
          case rel => exact ⟨k + 1, A1, cA1, by omega, by go_num, by rw [S1.out]; simp, Lib.hid (by rw [S1.out]; simpa [iv] using HO.out), CB2, hz3⟩
          case measure => simp [intOf]; omega
      · have hkn : k = c.tn := by omega
        subst hkn
        have HO := Lib.hid (own_more (base' := w.heap.size) how.out (by omega))
        go_wp2
        go_ret2
        exact ⟨_, _, rfl, HO, CB.out.bel⟩
  · have d0 : (c.cf.chk != 0) = true := by simpa using h0
    rw [show tenantsS c.cf = ([], c.cf.chk) from by unfold tenantsS; rw [if_neg h0]]
    generalize c.cf.chk = E at V1 d0 ⊢
    clear h0 hl2 hc V2
    go_enter Try.func41, Try.ntmps41
    go_upto_region 1 with fail
    generalize World.alloc _ _ = X at CB ⊢
    have c0 := CB.out.kf.cellv 0 (v := .int .i64 c.a) rfl
    have c1 := CB.out.kf.cellv 1 (v := .int .i64 c.b) rfl
    have c2 := CB.out.kf.cellv 2 (v := .slice c.fA c.fn c.fc) rfl
    have c3 := CB.out.kf.cellv 3 (v := .slice c.sA c.sn c.sc) rfl
    have c4 := CB.out.kf.cellv 4 (v := .slice c.tA c.tn c.tc) rfl
    have c5 := CB.out.kf.cellv 5 (v := .int .u64 (c.st : Int)) rfl
    go_wp2_with fail
    refine (V1.out _ CB.out.bel).mono ?_
    rintro e x ⟨rfl, hb⟩
    replace CB := Lib.hid (CB.out.next hb)
    clear hb
    clear c0 c1 c2 c3 c4 c5
    have c0 := CB.out.kf.cellv 0 (v := .int .i64 c.a) rfl
    have c1 := CB.out.kf.cellv 1 (v := .int .i64 c.b) rfl
    have c2 := CB.out.kf.cellv 2 (v := .slice c.fA c.fn c.fc) rfl
    have c3 := CB.out.kf.cellv 3 (v := .slice c.sA c.sn c.sc) rfl
    have c4 := CB.out.kf.cellv 4 (v := .slice c.tA c.tn c.tc) rfl
    have c5 := CB.out.kf.cellv 5 (v := .int .u64 (c.st : Int)) rfl
    go_wp2
    go_ret2
    exact ⟨none, 0, rfl, Lib.hid ⟨rfl, .inl ⟨rfl, rfl⟩⟩, CB.out.bel⟩
set_option maxHeartbeats 3200000 in
theorem refTenants_any (c : Cm) (w : World) (hc : c.In w w.heap.size) :
    Calls Try.prog 42 #[c.val] w fun e w' => ∃ A c', e = .returned (.tuple #[.slice A (tenantsS c.cf).1.length c', .int .i64 (tenantsS c.cf).2]) ∧ Hid (w'.ownsRow w.heap.size 3 1 (.slice A (tenantsS c.cf).1.length c') (tenantsS c.cf).1.length (iv (tenantsS c.cf).1)) ∧ Below w.heap.size w w' := by
  obtain ⟨i0, hi, hz0, hz1, hz2⟩ := info_parts int_info'
  have CB := Lib.hid (cbox w c)
  have hl2 : c.cf.ts.length = c.tn := by rw [← hc.len]; simp [Cm.cf]
  have tb := hc.t1.2
  have V1 := Lib.hid (fun W (hb : Below w.heap.size w W) => refCheck3_any c W (hc.go hb))
  have V2 := Lib.hid (fun (t : Int) W (hb : Below w.heap.size w W) => refPresent_any c t W (hc.go hb))
  by_cases h0 : c.cf.chk = 0
  · have E : tenantsS c.cf = (tenTo c.cf.ts c.tn, 0) := by unfold tenantsS; rw [if_pos h0, hl2]
    rw [E]
    rw [h0] at V1
    clear E h0 hl2 hc
    go_enter Try.func42, Try.ntmps42
    go_upto_region 1 with fail
    generalize World.alloc _ _ = X at CB ⊢
    have c0 := CB.out.kf.cellv 0 (v := .int .i64 c.a) rfl
    have c1 := CB.out.kf.cellv 1 (v := .int .i64 c.b) rfl
    have c2 := CB.out.kf.cellv 2 (v := .slice c.fA c.fn c.fc) rfl
    have c3 := CB.out.kf.cellv 3 (v := .slice c.sA c.sn c.sc) rfl
    have c4 := CB.out.kf.cellv 4 (v := .slice c.tA c.tn c.tc) rfl
    have c5 := CB.out.kf.cellv 5 (v := .int .u64 (c.st : Int)) rfl
    go_wp2_with fail
    refine (V1.out _ CB.out.bel).mono ?_
    rintro e x ⟨rfl, hb⟩
    replace CB := Lib.hid (CB.out.next hb)
    clear hb
    clear c0 c1 c2 c3 c4 c5
    have c0 := CB.out.kf.cellv 0 (v := .int .i64 c.a) rfl
    have c1 := CB.out.kf.cellv 1 (v := .int .i64 c.b) rfl
    have c2 := CB.out.kf.cellv 2 (v := .slice c.fA c.fn c.fc) rfl
    have c3 := CB.out.kf.cellv 3 (v := .slice c.sA c.sn c.sc) rfl
    have c4 := CB.out.kf.cellv 4 (v := .slice c.tA c.tn c.tc) rfl
    have c5 := CB.out.kf.cellv 5 (v := .int .u64 (c.st : Int)) rfl
    go_wp2
    clear c0 c1 c2 c3 c4 c5
    go_loopw [5, 6] (fun v i wr => ∃ (k : Nat) (TA : Option Addr) (cA : Nat), k ≤ c.tn ∧ i = .int .i64 (k : Int) ∧ v = .slice TA (tenTo c.cf.ts k).length cA ∧ Hid (wr.ownsRow (w.heap.size + 1) 3 1 (.slice TA (tenTo c.cf.ts k).length cA) (tenTo c.cf.ts k).length (iv (tenTo c.cf.ts k))) ∧ Hid (CBox w wr c) ∧ Hid (w.heap.size + 1 ≤ wr.heap.size))
      (fun _ i _ => c.tn - (intOf i).toNat)
    case atStart => exact ⟨0, none, 0, Nat.zero_le _, rfl, rfl, Lib.hid ⟨rfl, .inl ⟨rfl, rfl⟩⟩, CB, Lib.hid CB.out.kf.lt⟩
    case round =>
      clear CB
      obtain ⟨k, TA, cA, hk, rfl, rfl, how, CB, hz⟩ := hrel
      have c0 := CB.out.kf.cellv 0 (v := .int .i64 c.a) rfl
      have c1 := CB.out.kf.cellv 1 (v := .int .i64 c.b) rfl
      have c2 := CB.out.kf.cellv 2 (v := .slice c.fA c.fn c.fc) rfl
      have c3 := CB.out.kf.cellv 3 (v := .slice c.sA c.sn c.sc) rfl
      have c4 := CB.out.kf.cellv 4 (v := .slice c.tA c.tn c.tc) rfl
      have c5 := CB.out.kf.cellv 5 (v := .int .u64 (c.st : Int)) rfl
      by_cases hlt : k < c.tn
      · have k1 : (k : Int) < (c.tn : Int) := by omega
        have CALL := Lib.hid (V2.out (k : Int) wr CB.out.bel)
        have hle := tenTo_le c.cf.ts k
        have S1 : Hid (tenTo c.cf.ts (k + 1) = tenTo c.cf.ts k ++ (if presB c.cf.ts (k : Int) then [(k : Int)] else [])) := Lib.hid rfl
        cases hp : presB c.cf.ts (k : Int)
        · rw [hp] at CALL S1
          clear hp
          go_wp2_with fail
          refine CALL.out.mono ?_
          rintro e x ⟨rfl, hb⟩
          replace how := Lib.hid (own_go how.out hb)
          have hzb : Hid (w.heap.size + 1 ≤ x.heap.size) := Lib.hid (Nat.le_trans hz.out hb.size)
          replace CB := Lib.hid (CB.out.next hb)
          clear hb c0 c1 c2 c3 c4 c5
          go_wp2
          go_roundw
          case rel => exact ⟨k + 1, TA, cA, by omega, by go_num, by rw [S1.out]; simp, Lib.hid (by rw [S1.out]; simpa using how.out), CB, hzb⟩
          case measure => simp [intOf]; omega
        · rw [hp] at CALL S1
          clear hp
          go_wp2_with fail
          refine CALL.out.mono ?_
          rintro e x ⟨rfl, hb⟩
          replace how := Lib.hid (own_go how.out hb)
          have hzb : Hid (w.heap.size + 1 ≤ x.heap.size) := Lib.hid (Nat.le_trans hz.out hb.size)
          replace CB := Lib.hid (CB.out.next hb)
          clear hb c0 c1 c2 c3 c4 c5
          go_wp2_with (at_builtin; refine wpList_append_any _ rfl _ _ 22 rfl (w.heap.size + 1) 3 i0 (.int .i64 0) 1 8 Try.underlying22 hi hz0 hz1 hz2 rfl (by decide) _ _ _ rfl (how.out.alloc _) (x.heap.size + 1) _ 1 1 _ rfl (reads_new1 _ _ rfl) (iv_oneCell [_]) (by unfold maxLen; omega) (by omega) (by have := hzb.out; simp; omega) ?_; intro v1 w1 hown1 hg1 _; obtain ⟨A1, cA1, rfl, _, _, _⟩ := own_form hown1; have HO := Lib.hid hown1; have HG := Lib.hid hg1; clear hown1 hg1)
          have hX := CB.out.next (bk_alloc (Below.refl _ _) (.cells #[.int .i64 (k : Int)] 3))
          have hb2 : Below (w.heap.size + 1) (x.alloc (.cells #[.int .i64 (k : Int)] 3)) w1 := below_grow HG.out (own_ge how.out) (by have := hzb.out; simp; omega)
          have CB2 : Hid (CBox w w1 c) := Lib.hid ⟨hX.kf.below hb2 (Nat.lt_succ_self _), hX.bel.trans (hb2.mono (Nat.le_succ _))⟩
          have hz3 : Hid (w.heap.size + 1 ≤ w1.heap.size) := Lib.hid (by have := hb2.size; have := hzb.out; simp at *; omega)
          clear hX hb2
          go_roundw
          case rel => exact ⟨k + 1, A1, cA1, by omega, by go_num, by rw [S1.out]; simp, Lib.hid (by rw [S1.out]; simpa [iv] using HO.out), CB2, hz3⟩
          case measure => simp [intOf]; omega
      · have hkn : k = c.tn := by omega
        subst hkn
        have HO := Lib.hid (own_more (base' := w.heap.size) how.out (by omega))
        go_wp2
        go_ret2
        exact ⟨_, _, rfl, HO, CB.out.bel⟩
  · have d0 : (c.cf.chk != 0) = true := by simpa using h0
    rw [show tenantsS c.cf = ([], c.cf.chk) from by unfold tenantsS; rw [if_neg h0]]
    generalize c.cf.chk = E at V1 d0 ⊢
    clear h0 hl2 hc V2
    go_enter Try.func42, Try.ntmps42
    go_upto_region 1 with fail
    generalize World.alloc _ _ = X at CB ⊢
    have c0 := CB.out.kf.cellv 0 (v := .int .i64 c.a) rfl
    have c1 := CB.out.kf.cellv 1 (v := .int .i64 c.b) rfl
    have c2 := CB.out.kf.cellv 2 (v := .slice c.fA c.fn c.fc) rfl
    have c3 := CB.out.kf.cellv 3 (v := .slice c.sA c.sn c.sc) rfl
    have c4 := CB.out.kf.cellv 4 (v := .slice c.tA c.tn c.tc) rfl
    have c5 := CB.out.kf.cellv 5 (v := .int .u64 (c.st : Int)) rfl
    go_wp2_with fail
    refine (V1.out _ CB.out.bel).mono ?_
    rintro e x ⟨rfl, hb⟩
    replace CB := Lib.hid (CB.out.next hb)
    clear hb
    clear c0 c1 c2 c3 c4 c5
    have c0 := CB.out.kf.cellv 0 (v := .int .i64 c.a) rfl
    have c1 := CB.out.kf.cellv 1 (v := .int .i64 c.b) rfl
    have c2 := CB.out.kf.cellv 2 (v := .slice c.fA c.fn c.fc) rfl
    have c3 := CB.out.kf.cellv 3 (v := .slice c.sA c.sn c.sc) rfl
    have c4 := CB.out.kf.cellv 4 (v := .slice c.tA c.tn c.tc) rfl
    have c5 := CB.out.kf.cellv 5 (v := .int .u64 (c.st : Int)) rfl
    go_wp2
    go_ret2
    exact ⟨none, 0, rfl, Lib.hid ⟨rfl, .inl ⟨rfl, rfl⟩⟩, CB.out.bel⟩
end Go.Proofs.Ytcbghchciplfcaa
