/-
  CFGPRES: isPresent (both), belongs, ownsNothing.
-/
import Derived.Test.YtcbghchciplfcaaCfgCheckT
import Derived.Test.YtcbghchciplfcaaSlices2
import Derived.Test.YtcbghchciplfcaaSlRef
namespace Go.Proofs.Ytcbghchciplfcaa
set_option linter.unusedVariables false
set_option linter.unusedSimpArgs false
set_option maxRecDepth 100000
open Go.RowKit

def presB (ts : List Team) (t : Int) : Bool := decide (0 ≤ t ∧ t < (ts.length : Int)) && (match ts[t.toNat]? with | some m => !m.absB | none => false)
theorem presB_at {ts : List Team} {k : Nat} {m : Team} (h : ts[k]? = some m) : presB ts (k : Int) = !m.absB := by
  have hk : k < ts.length := (List.getElem?_eq_some_iff.1 h).1
  unfold presB
  rw [decide_eq_true ⟨by omega, by omega⟩, Bool.true_and, Int.toNat_natCast, h]
theorem presB_out {ts : List Team} {t : Int} (h : ¬ (0 ≤ t ∧ t < (ts.length : Int))) : presB ts t = false := by
  unfold presB
  rw [decide_eq_false h]; rfl
set_option maxHeartbeats 3200000 in
theorem isPresent_any (c : Cm) (t : Int) (w : World) (hc : c.In w w.heap.size) :
    Calls Try.prog 67 #[c.val, .int .i64 t] w fun e w' => e = .returned (.bool (presB c.cf.ts t)) ∧ Below w.heap.size w w' := by
  have CB := Lib.hid (cbox w c)
  have hl := hc.len
  have hl2 : c.cf.ts.length = c.tn := by rw [← hl]; simp [Cm.cf]
  have t1 := hc.t1
  by_cases h0 : t < 0
  · rw [presB_out (by omega)]
    have d1 : decide (t ≥ 0) = false := by simp; omega
    have d1' : decide (0 ≤ t) = false := by simp; omega
    clear hc hl hl2 h0
    go_enter Try.func67, Try.ntmps67
    go_wp2
    go_ret
    exact ⟨rfl, CB.out.bel⟩
  · have d1 : decide (t ≥ 0) = true := by simp; omega
    have d1' : decide (0 ≤ t) = true := by simp; omega
    by_cases h1 : t ≥ (c.tn : Int)
    · rw [presB_out (by omega)]
      have d2 : decide (t < (c.tn : Int)) = false := by simp; omega
      clear hc hl hl2 h0 h1
      have c0 := CB.out.kf.cellv 0 (v := .int .i64 c.a) rfl
      have c1 := CB.out.kf.cellv 1 (v := .int .i64 c.b) rfl
      have c2 := CB.out.kf.cellv 2 (v := .slice c.fA c.fn c.fc) rfl
      have c3 := CB.out.kf.cellv 3 (v := .slice c.sA c.sn c.sc) rfl
      have c4 := CB.out.kf.cellv 4 (v := .slice c.tA c.tn c.tc) rfl
      have c5 := CB.out.kf.cellv 5 (v := .int .u64 (c.st : Int)) rfl
      go_enter Try.func67, Try.ntmps67
      go_wp2
      go_ret
      exact ⟨rfl, CB.out.bel⟩
    · have d2 : decide (t < (c.tn : Int)) = true := by simp; omega
      obtain ⟨k, hk⟩ := Int.eq_ofNat_of_zero_le (show 0 ≤ t by omega)
      have hkn : k < c.tn := by omega
      have d0 : (0 : Int) ≤ t := by omega
      have d3 : t < (c.tn : Int) := by omega
      obtain ⟨ad, m, hA, had, hx, hct⟩ := teams_at hc.t hkn
      have HT := Lib.hid (hc.ts m (List.mem_of_getElem? hx))
      have hp : presB c.cf.ts t = !m.tm.absB := by
        rw [hk]
        exact presB_at (by show (c.ts.map (·.tm))[k]? = _; rw [List.getElem?_map, hx]; rfl)
      have VA := Lib.hid (fun W (hb : Below w.heap.size w W) => absent_any m W (HT.out.go hb))
      rw [hp]
      generalize m.tm.absB = R at VA ⊢
      have hk2 : t.toNat = k := by omega
      have HCT := Lib.hid hct
      clear hc hl hl2 h0 h1 hp hct hx hk
      go_enter Try.func67, Try.ntmps67
      go_upto_region 1 with fail
      generalize World.alloc _ _ = X at CB ⊢
      have hbb := CB.out.bel
      obtain ⟨g0, g1, g2, g3, g4, g5, g6, g7⟩ := team_spelled (p := ad.add (k * 8)) (fun j v hv => by rw [add_of_add]; exact (hbb.cell (by rw [block_of_add]; exact had)).trans (HCT.out j v hv))
      have c0 := CB.out.kf.cellv 0 (v := .int .i64 c.a) rfl
      have c1 := CB.out.kf.cellv 1 (v := .int .i64 c.b) rfl
      have c2 := CB.out.kf.cellv 2 (v := .slice c.fA c.fn c.fc) rfl
      have c3 := CB.out.kf.cellv 3 (v := .slice c.sA c.sn c.sc) rfl
      have c4 := CB.out.kf.cellv 4 (v := .slice c.tA c.tn c.tc) rfl
      have c5 := CB.out.kf.cellv 5 (v := .int .u64 (c.st : Int)) rfl
      rw [hA] at c4
      clear hbb hA had
      go_wp2_with fail
      refine (VA.out _ CB.out.bel).mono ?_
      rintro e x ⟨rfl, hb⟩
      have HB := Lib.hid (CB.out.bel.trans (hb.mono CB.out.bel.size))
      clear hb c0 c1 c2 c3 c4 c5 g0 g1 g2 g3 g4 g5 g6 g7
      go_wp2
      go_ret
      exact ⟨rfl, HB.out⟩
set_option maxHeartbeats 3200000 in
theorem refPresent_any (c : Cm) (t : Int) (w : World) (hc : c.In w w.heap.size) :
    Calls Try.prog 50 #[c.val, .int .i64 t] w fun e w' => e = .returned (.bool (presB c.cf.ts t)) ∧ Below w.heap.size w w' := by
  have CB := Lib.hid (cbox w c)
  have hl := hc.len
  have hl2 : c.cf.ts.length = c.tn := by rw [← hl]; simp [Cm.cf]
  have t1 := hc.t1
  by_cases h0 : t < 0
  · rw [presB_out (by omega)]
    have d1 : decide (t ≥ 0) = false := by simp; omega
    have d1' : decide (0 ≤ t) = false := by simp; omega
    clear hc hl hl2 h0
    go_enter Try.func50, Try.ntmps50
    go_wp2
    go_ret
    exact ⟨rfl, CB.out.bel⟩
  · have d1 : decide (t ≥ 0) = true := by simp; omega
    have d1' : decide (0 ≤ t) = true := by simp; omega
    by_cases h1 : t ≥ (c.tn : Int)
    · rw [presB_out (by omega)]
      have d2 : decide (t < (c.tn : Int)) = false := by simp; omega
      clear hc hl hl2 h0 h1
      have c0 := CB.out.kf.cellv 0 (v := .int .i64 c.a) rfl
      have c1 := CB.out.kf.cellv 1 (v := .int .i64 c.b) rfl
      have c2 := CB.out.kf.cellv 2 (v := .slice c.fA c.fn c.fc) rfl
      have c3 := CB.out.kf.cellv 3 (v := .slice c.sA c.sn c.sc) rfl
      have c4 := CB.out.kf.cellv 4 (v := .slice c.tA c.tn c.tc) rfl
      have c5 := CB.out.kf.cellv 5 (v := .int .u64 (c.st : Int)) rfl
      go_enter Try.func50, Try.ntmps50
      go_wp2
      go_ret
      exact ⟨rfl, CB.out.bel⟩
    · have d2 : decide (t < (c.tn : Int)) = true := by simp; omega
      obtain ⟨k, hk⟩ := Int.eq_ofNat_of_zero_le (show 0 ≤ t by omega)
      have hkn : k < c.tn := by omega
      have d0 : (0 : Int) ≤ t := by omega
      have d3 : t < (c.tn : Int) := by omega
      obtain ⟨ad, m, hA, had, hx, hct⟩ := teams_at hc.t hkn
      have HT := Lib.hid (hc.ts m (List.mem_of_getElem? hx))
      have hp : presB c.cf.ts t = !m.tm.absB := by
        rw [hk]
        exact presB_at (by show (c.ts.map (·.tm))[k]? = _; rw [List.getElem?_map, hx]; rfl)
      have VA := Lib.hid (fun W (hb : Below w.heap.size w W) => refAbsent_any m W (HT.out.go hb))
      rw [hp]
      generalize m.tm.absB = R at VA ⊢
      have hk2 : t.toNat = k := by omega
      have HCT := Lib.hid hct
      clear hc hl hl2 h0 h1 hp hct hx hk
      go_enter Try.func50, Try.ntmps50
      go_upto_region 1 with fail
      generalize World.alloc _ _ = X at CB ⊢
      have hbb := CB.out.bel
      obtain ⟨g0, g1, g2, g3, g4, g5, g6, g7⟩ := team_spelled (p := ad.add (k * 8)) (fun j v hv => by rw [add_of_add]; exact (hbb.cell (by rw [block_of_add]; exact had)).trans (HCT.out j v hv))
      have c0 := CB.out.kf.cellv 0 (v := .int .i64 c.a) rfl
      have c1 := CB.out.kf.cellv 1 (v := .int .i64 c.b) rfl
      have c2 := CB.out.kf.cellv 2 (v := .slice c.fA c.fn c.fc) rfl
      have c3 := CB.out.kf.cellv 3 (v := .slice c.sA c.sn c.sc) rfl
      have c4 := CB.out.kf.cellv 4 (v := .slice c.tA c.tn c.tc) rfl
      have c5 := CB.out.kf.cellv 5 (v := .int .u64 (c.st : Int)) rfl
      rw [hA] at c4
      clear hbb hA had
      go_wp2_with fail
      refine (VA.out _ CB.out.bel).mono ?_
      rintro e x ⟨rfl, hb⟩
      have HB := Lib.hid (CB.out.bel.trans (hb.mono CB.out.bel.size))
      clear hb c0 c1 c2 c3 c4 c5 g0 g1 g2 g3 g4 g5 g6 g7
      go_wp2
      go_ret
      exact ⟨rfl, HB.out⟩
end Go.Proofs.Ytcbghchciplfcaa
