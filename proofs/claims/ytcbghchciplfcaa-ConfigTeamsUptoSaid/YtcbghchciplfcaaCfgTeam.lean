/-
  CFGTEAM: Absent (both), SameTeam (both), TwinTeam.
-/
import Derived.Test.YtcbghchciplfcaaCfgEq
import Derived.Deep.RegionHeld3
import Derived.Laws.OwnMore
namespace Go.Proofs.Ytcbghchciplfcaa
set_option linter.unusedVariables false
set_option linter.unusedSimpArgs false
set_option maxRecDepth 100000
open Go.RowKit

set_option maxHeartbeats 1600000 in
theorem absent_any (t : Tm) (w : World) (ht : t.In w w.heap.size) :
    Calls Try.prog 32 #[t.val] w fun e w' => e = .returned (.bool t.tm.absB) ∧ Below w.heap.size w w' := by
  have TB := Lib.hid (tbox w t)
  have h1 := ht.h1.1; have h2 := ht.h1.2; have p1 := ht.p1.1; have p2 := ht.p1.2; have d1 := ht.d1.1; have d2 := ht.d1.2
  have e1 := ht.h.len; have e2 := ht.p.len; have e3 := ht.d.len
  have E : Hid (t.tm.absB = (decide (t.hn = 0) && decide (t.pn = 0) && decide (t.dn = 0) && (t.tm.lo == 0) && (t.tm.un == 0) && (t.tm.qu == 0) && (t.tm.qt == 0) && (t.tm.wi == 0))) := by
    refine Lib.hid ?_
    unfold Team.absB
    rw [← e1, ← e2, ← e3]
    rw [Bool.eq_iff_iff]
    simp
  clear ht e1 e2 e3
  have c0 := TB.out.kf.cellv 0 (v := .slice t.hA t.hn t.hc) rfl
  have c1 := TB.out.kf.cellv 1 (v := .slice t.pA t.pn t.pc) rfl
  have c2 := TB.out.kf.cellv 2 (v := .slice t.dA t.dn t.dc) rfl
  have c3 := TB.out.kf.cellv 3 (v := .int .i64 t.tm.lo) rfl
  have c4 := TB.out.kf.cellv 4 (v := .int .i64 t.tm.un) rfl
  have c5 := TB.out.kf.cellv 5 (v := .int .i64 t.tm.qu) rfl
  have c6 := TB.out.kf.cellv 6 (v := .int .i64 t.tm.qt) rfl
  have c7 := TB.out.kf.cellv 7 (v := .int .i64 t.tm.wi) rfl
  go_enter Try.func32, Try.ntmps32
  go_wp2
  all_goals
    go_ret
    exact ⟨by rw [E.out]; congr 1; (simp [*]), TB.out.bel⟩
set_option maxHeartbeats 1600000 in
theorem refAbsent_any (t : Tm) (w : World) (ht : t.In w w.heap.size) :
    Calls Try.prog 33 #[t.val] w fun e w' => e = .returned (.bool t.tm.absB) ∧ Below w.heap.size w w' := by
  have TB := Lib.hid (tbox w t)
  have h1 := ht.h1.1; have h2 := ht.h1.2; have p1 := ht.p1.1; have p2 := ht.p1.2; have d1 := ht.d1.1; have d2 := ht.d1.2
  have e1 := ht.h.len; have e2 := ht.p.len; have e3 := ht.d.len
  have E : Hid (t.tm.absB = (decide (t.hn = 0) && decide (t.pn = 0) && decide (t.dn = 0) && (t.tm.lo == 0) && (t.tm.un == 0) && (t.tm.qu == 0) && (t.tm.qt == 0) && (t.tm.wi == 0))) := by
    refine Lib.hid ?_
    unfold Team.absB
    rw [← e1, ← e2, ← e3]
    rw [Bool.eq_iff_iff]
    simp
  clear ht e1 e2 e3
  have c0 := TB.out.kf.cellv 0 (v := .slice t.hA t.hn t.hc) rfl
  have c1 := TB.out.kf.cellv 1 (v := .slice t.pA t.pn t.pc) rfl
  have c2 := TB.out.kf.cellv 2 (v := .slice t.dA t.dn t.dc) rfl
  have c3 := TB.out.kf.cellv 3 (v := .int .i64 t.tm.lo) rfl
  have c4 := TB.out.kf.cellv 4 (v := .int .i64 t.tm.un) rfl
  have c5 := TB.out.kf.cellv 5 (v := .int .i64 t.tm.qu) rfl
  have c6 := TB.out.kf.cellv 6 (v := .int .i64 t.tm.qt) rfl
  have c7 := TB.out.kf.cellv 7 (v := .int .i64 t.tm.wi) rfl
  go_enter Try.func33, Try.ntmps33
  go_wp2
  all_goals
    go_ret
    exact ⟨by rw [E.out]; congr 1; (simp [*] <;> omega), TB.out.bel⟩

theorem Team.eq_iff (t u : Team) : decide (t = u) = (decide (t.hs = u.hs) && decide (t.ps = u.ps) && decide (t.ds = u.ds) && decide (t.lo = u.lo) && decide (t.un = u.un) && decide (t.qu = u.qu) && decide (t.qt = u.qt) && decide (t.wi = u.wi)) := by
  cases t; cases u
  rw [Bool.eq_iff_iff]
  simp [and_assoc]
/-- two teams in variables of the call's own. -/
structure TBox2 (w X : World) (t u : Tm) : Prop where
  kf : Blk X w.heap.size 24 t.arr
  kg : Blk X (w.heap.size + 1) 24 u.arr
  bel : Below w.heap.size w X
theorem TBox2.next {w X X' : World} {t u : Tm} (h : TBox2 w X t u) (hb : Below X.heap.size X X') : TBox2 w X' t u := ⟨h.kf.below hb h.kf.lt, h.kg.below hb h.kg.lt, h.bel.trans (hb.mono h.bel.size)⟩
theorem tbox2 (w : World) (t u : Tm) : TBox2 w ((w.alloc (.cells #[.slice t.hA t.hn t.hc, .slice t.pA t.pn t.pc, .slice t.dA t.dn t.dc, .int .i64 t.tm.lo, .int .i64 t.tm.un, .int .i64 t.tm.qu, .int .i64 t.tm.qt, .int .i64 t.tm.wi] 24)).alloc (.cells #[.slice u.hA u.hn u.hc, .slice u.pA u.pn u.pc, .slice u.dA u.dn u.dc, .int .i64 u.tm.lo, .int .i64 u.tm.un, .int .i64 u.tm.qu, .int .i64 u.tm.qt, .int .i64 u.tm.wi] 24)) t u := by
  refine ⟨(Blk.new w 24 t.arr).alloc _, ?_, ((Below.refl _ _).alloc (Nat.le_refl _) _).alloc (by simp) _⟩
  have := Blk.new (w.alloc (.cells t.arr 24)) 24 u.arr
  simpa using this
set_option maxHeartbeats 3200000 in
theorem sameTeam_any (t u : Tm) (w : World) (ht : t.In w w.heap.size) (hu : u.In w w.heap.size) :
    Calls Try.prog 89 #[t.val, u.val] w fun e w' => e = .returned (.bool (decide (t.tm = u.tm))) ∧ Below w.heap.size w w' := by
  have TB := Lib.hid (tbox2 w t u)
  have h1 := ht.h1; have p1 := ht.p1; have d1 := ht.d1
  have V1 := Lib.hid (fun W (hb : Below w.heap.size w W) => eqInts_b t.hA u.hA t.hn u.hn t.hc u.hc t.tm.hs u.tm.hs W ((ht.h.below hb).more hb.size) ((hu.h.below hb).more hb.size) (by omega))
  have V2 := Lib.hid (fun W (hb : Below w.heap.size w W) => eqInts_b t.pA u.pA t.pn u.pn t.pc u.pc t.tm.ps u.tm.ps W ((ht.p.below hb).more hb.size) ((hu.p.below hb).more hb.size) (by omega))
  have V3 := Lib.hid (fun W (hb : Below w.heap.size w W) => eqInts_b t.dA u.dA t.dn u.dn t.dc u.dc t.tm.ds u.tm.ds W ((ht.d.below hb).more hb.size) ((hu.d.below hb).more hb.size) (by omega))
  have E := Lib.hid (Team.eq_iff t.tm u.tm)
  obtain ⟨R, hR⟩ : ∃ R, R = decide (t.tm = u.tm) := ⟨_, rfl⟩
  rw [← hR] at E ⊢
  clear hR ht hu h1 p1 d1
  generalize decide (t.tm.hs = u.tm.hs) = b1 at V1 E
  generalize decide (t.tm.ps = u.tm.ps) = b2 at V2 E
  generalize decide (t.tm.ds = u.tm.ds) = b3 at V3 E
  have c0 := TB.out.kf.cellv 0 (v := .slice t.hA t.hn t.hc) rfl
  have c1 := TB.out.kf.cellv 1 (v := .slice t.pA t.pn t.pc) rfl
  have c2 := TB.out.kf.cellv 2 (v := .slice t.dA t.dn t.dc) rfl
  have c3 := TB.out.kf.cellv 3 (v := .int .i64 t.tm.lo) rfl
  have c4 := TB.out.kf.cellv 4 (v := .int .i64 t.tm.un) rfl
  have c5 := TB.out.kf.cellv 5 (v := .int .i64 t.tm.qu) rfl
  have c6 := TB.out.kf.cellv 6 (v := .int .i64 t.tm.qt) rfl
  have c7 := TB.out.kf.cellv 7 (v := .int .i64 t.tm.wi) rfl
  have d0 := TB.out.kg.cellv 0 (v := .slice u.hA u.hn u.hc) rfl
  have d1 := TB.out.kg.cellv 1 (v := .slice u.pA u.pn u.pc) rfl
  have d2 := TB.out.kg.cellv 2 (v := .slice u.dA u.dn u.dc) rfl
  have d3 := TB.out.kg.cellv 3 (v := .int .i64 u.tm.lo) rfl
  have d4 := TB.out.kg.cellv 4 (v := .int .i64 u.tm.un) rfl
  have d5 := TB.out.kg.cellv 5 (v := .int .i64 u.tm.qu) rfl
  have d6 := TB.out.kg.cellv 6 (v := .int .i64 u.tm.qt) rfl
  have d7 := TB.out.kg.cellv 7 (v := .int .i64 u.tm.wi) rfl
  cases b1
  · go_enter Try.func89, Try.ntmps89
    go_wp2_with fail
    refine (V1.out _ TB.out.bel).mono ?_
    rintro e x ⟨rfl, hb⟩
    replace TB := Lib.hid (TB.out.next hb)
    clear hb c0 c1 c2 c3 c4 c5 c6 c7 d0 d1 d2 d3 d4 d5 d6 d7
    have c0 := TB.out.kf.cellv 0 (v := .slice t.hA t.hn t.hc) rfl
    have c1 := TB.out.kf.cellv 1 (v := .slice t.pA t.pn t.pc) rfl
    have c2 := TB.out.kf.cellv 2 (v := .slice t.dA t.dn t.dc) rfl
    have c3 := TB.out.kf.cellv 3 (v := .int .i64 t.tm.lo) rfl
    have c4 := TB.out.kf.cellv 4 (v := .int .i64 t.tm.un) rfl
    have c5 := TB.out.kf.cellv 5 (v := .int .i64 t.tm.qu) rfl
    have c6 := TB.out.kf.cellv 6 (v := .int .i64 t.tm.qt) rfl
    have c7 := TB.out.kf.cellv 7 (v := .int .i64 t.tm.wi) rfl
    have d0 := TB.out.kg.cellv 0 (v := .slice u.hA u.hn u.hc) rfl
    have d1 := TB.out.kg.cellv 1 (v := .slice u.pA u.pn u.pc) rfl
    have d2 := TB.out.kg.cellv 2 (v := .slice u.dA u.dn u.dc) rfl
    have d3 := TB.out.kg.cellv 3 (v := .int .i64 u.tm.lo) rfl
    have d4 := TB.out.kg.cellv 4 (v := .int .i64 u.tm.un) rfl
    have d5 := TB.out.kg.cellv 5 (v := .int .i64 u.tm.qu) rfl
    have d6 := TB.out.kg.cellv 6 (v := .int .i64 u.tm.qt) rfl
    have d7 := TB.out.kg.cellv 7 (v := .int .i64 u.tm.wi) rfl
    go_wp2
    go_ret
    exact ⟨by rw [E.out]; simp, TB.out.bel⟩
  · cases b2
    · go_enter Try.func89, Try.ntmps89
      go_wp2_with fail
      refine (V1.out _ TB.out.bel).mono ?_
      rintro e x ⟨rfl, hb⟩
      replace TB := Lib.hid (TB.out.next hb)
      clear hb c0 c1 c2 c3 c4 c5 c6 c7 d0 d1 d2 d3 d4 d5 d6 d7
      have c0 := TB.out.kf.cellv 0 (v := .slice t.hA t.hn t.hc) rfl
      have c1 := TB.out.kf.cellv 1 (v := .slice t.pA t.pn t.pc) rfl
      have c2 := TB.out.kf.cellv 2 (v := .slice t.dA t.dn t.dc) rfl
      have c3 := TB.out.kf.cellv 3 (v := .int .i64 t.tm.lo) rfl
      have c4 := TB.out.kf.cellv 4 (v := .int .i64 t.tm.un) rfl
      have c5 := TB.out.kf.cellv 5 (v := .int .i64 t.tm.qu) rfl
      have c6 := TB.out.kf.cellv 6 (v := .int .i64 t.tm.qt) rfl
      have c7 := TB.out.kf.cellv 7 (v := .int .i64 t.tm.wi) rfl
      have d0 := TB.out.kg.cellv 0 (v := .slice u.hA u.hn u.hc) rfl
      have d1 := TB.out.kg.cellv 1 (v := .slice u.pA u.pn u.pc) rfl
      have d2 := TB.out.kg.cellv 2 (v := .slice u.dA u.dn u.dc) rfl
      have d3 := TB.out.kg.cellv 3 (v := .int .i64 u.tm.lo) rfl
      have d4 := TB.out.kg.cellv 4 (v := .int .i64 u.tm.un) rfl
      have d5 := TB.out.kg.cellv 5 (v := .int .i64 u.tm.qu) rfl
      have d6 := TB.out.kg.cellv 6 (v := .int .i64 u.tm.qt) rfl
      have d7 := TB.out.kg.cellv 7 (v := .int .i64 u.tm.wi) rfl
      go_wp2_with fail
      refine (V2.out _ TB.out.bel).mono ?_
      rintro e x ⟨rfl, hb⟩
      replace TB := Lib.hid (TB.out.next hb)
      clear hb c0 c1 c2 c3 c4 c5 c6 c7 d0 d1 d2 d3 d4 d5 d6 d7
      have c0 := TB.out.kf.cellv 0 (v := .slice t.hA t.hn t.hc) rfl
      have c1 := TB.out.kf.cellv 1 (v := .slice t.pA t.pn t.pc) rfl
      have c2 := TB.out.kf.cellv 2 (v := .slice t.dA t.dn t.dc) rfl
      have c3 := TB.out.kf.cellv 3 (v := .int .i64 t.tm.lo) rfl
      have c4 := TB.out.kf.cellv 4 (v := .int .i64 t.tm.un) rfl
      have c5 := TB.out.kf.cellv 5 (v := .int .i64 t.tm.qu) rfl
      have c6 := TB.out.kf.cellv 6 (v := .int .i64 t.tm.qt) rfl
      have c7 := TB.out.kf.cellv 7 (v := .int .i64 t.tm.wi) rfl
      have d0 := TB.out.kg.cellv 0 (v := .slice u.hA u.hn u.hc) rfl
      have d1 := TB.out.kg.cellv 1 (v := .slice u.pA u.pn u.pc) rfl
      have d2 := TB.out.kg.cellv 2 (v := .slice u.dA u.dn u.dc) rfl
      have d3 := TB.out.kg.cellv 3 (v := .int .i64 u.tm.lo) rfl
      have d4 := TB.out.kg.cellv 4 (v := .int .i64 u.tm.un) rfl
      have d5 := TB.out.kg.cellv 5 (v := .int .i64 u.tm.qu) rfl
      have d6 := TB.out.kg.cellv 6 (v := .int .i64 u.tm.qt) rfl
      have d7 := TB.out.kg.cellv 7 (v := .int .i64 u.tm.wi) rfl
      go_wp2
      go_ret
      exact ⟨by rw [E.out]; simp, TB.out.bel⟩
    · cases b3
      · go_enter Try.func89, Try.ntmps89
        go_wp2_with fail
        refine (V1.out _ TB.out.bel).mono ?_
        rintro e x ⟨rfl, hb⟩
        replace TB := Lib.hid (TB.out.next hb)
        clear hb c0 c1 c2 c3 c4 c5 c6 c7 d0 d1 d2 d3 d4 d5 d6 d7
        have c0 := TB.out.kf.cellv 0 (v := .slice t.hA t.hn t.hc) rfl
        have c1 := TB.out.kf.cellv 1 (v := .slice t.pA t.pn t.pc) rfl
        have c2 := TB.out.kf.cellv 2 (v := .slice t.dA t.dn t.dc) rfl
        have c3 := TB.out.kf.cellv 3 (v := .int .i64 t.tm.lo) rfl
        have c4 := TB.out.kf.cellv 4 (v := .int .i64 t.tm.un) rfl
        have c5 := TB.out.kf.cellv 5 (v := .int .i64 t.tm.qu) rfl
        have c6 := TB.out.kf.cellv 6 (v := .int .i64 t.tm.qt) rfl
        have c7 := TB.out.kf.cellv 7 (v := .int .i64 t.tm.wi) rfl
        have d0 := TB.out.kg.cellv 0 (v := .slice u.hA u.hn u.hc) rfl
        have d1 := TB.out.kg.cellv 1 (v := .slice u.pA u.pn u.pc) rfl
        have d2 := TB.out.kg.cellv 2 (v := .slice u.dA u.dn u.dc) rfl
        have d3 := TB.out.kg.cellv 3 (v := .int .i64 u.tm.lo) rfl
        have d4 := TB.out.kg.cellv 4 (v := .int .i64 u.tm.un) rfl
        have d5 := TB.out.kg.cellv 5 (v := .int .i64 u.tm.qu) rfl
        have d6 := TB.out.kg.cellv 6 (v := .int .i64 u.tm.qt) rfl
        have d7 := TB.out.kg.cellv 7 (v := .int .i64 u.tm.wi) rfl
        go_wp2_with fail
        refine (V2.out _ TB.out.bel).mono ?_
        rintro e x ⟨rfl, hb⟩
        replace TB := Lib.hid (TB.out.next hb)
        clear hb c0 c1 c2 c3 c4 c5 c6 c7 d0 d1 d2 d3 d4 d5 d6 d7
        have c0 := TB.out.kf.cellv 0 (v := .slice t.hA t.hn t.hc) rfl
        have c1 := TB.out.kf.cellv 1 (v := .slice t.pA t.pn t.pc) rfl
        have c2 := TB.out.kf.cellv 2 (v := .slice t.dA t.dn t.dc) rfl
        have c3 := TB.out.kf.cellv 3 (v := .int .i64 t.tm.lo) rfl
        have c4 := TB.out.kf.cellv 4 (v := .int .i64 t.tm.un) rfl
        have c5 := TB.out.kf.cellv 5 (v := .int .i64 t.tm.qu) rfl
        have c6 := TB.out.kf.cellv 6 (v := .int .i64 t.tm.qt) rfl
        have c7 := TB.out.kf.cellv 7 (v := .int .i64 t.tm.wi) rfl
        have d0 := TB.out.kg.cellv 0 (v := .slice u.hA u.hn u.hc) rfl
        have d1 := TB.out.kg.cellv 1 (v := .slice u.pA u.pn u.pc) rfl
        have d2 := TB.out.kg.cellv 2 (v := .slice u.dA u.dn u.dc) rfl
        have d3 := TB.out.kg.cellv 3 (v := .int .i64 u.tm.lo) rfl
        have d4 := TB.out.kg.cellv 4 (v := .int .i64 u.tm.un) rfl
        have d5 := TB.out.kg.cellv 5 (v := .int .i64 u.tm.qu) rfl
        have d6 := TB.out.kg.cellv 6 (v := .int .i64 u.tm.qt) rfl
        have d7 := TB.out.kg.cellv 7 (v := .int .i64 u.tm.wi) rfl
        go_wp2_with fail
        refine (V3.out _ TB.out.bel).mono ?_
        rintro e x ⟨rfl, hb⟩
        replace TB := Lib.hid (TB.out.next hb)
        clear hb c0 c1 c2 c3 c4 c5 c6 c7 d0 d1 d2 d3 d4 d5 d6 d7
        have c0 := TB.out.kf.cellv 0 (v := .slice t.hA t.hn t.hc) rfl
        have c1 := TB.out.kf.cellv 1 (v := .slice t.pA t.pn t.pc) rfl
        have c2 := TB.out.kf.cellv 2 (v := .slice t.dA t.dn t.dc) rfl
        have c3 := TB.out.kf.cellv 3 (v := .int .i64 t.tm.lo) rfl
        have c4 := TB.out.kf.cellv 4 (v := .int .i64 t.tm.un) rfl
        have c5 := TB.out.kf.cellv 5 (v := .int .i64 t.tm.qu) rfl
        have c6 := TB.out.kf.cellv 6 (v := .int .i64 t.tm.qt) rfl
        have c7 := TB.out.kf.cellv 7 (v := .int .i64 t.tm.wi) rfl
        have d0 := TB.out.kg.cellv 0 (v := .slice u.hA u.hn u.hc) rfl
        have d1 := TB.out.kg.cellv 1 (v := .slice u.pA u.pn u.pc) rfl
        have d2 := TB.out.kg.cellv 2 (v := .slice u.dA u.dn u.dc) rfl
        have d3 := TB.out.kg.cellv 3 (v := .int .i64 u.tm.lo) rfl
        have d4 := TB.out.kg.cellv 4 (v := .int .i64 u.tm.un) rfl
        have d5 := TB.out.kg.cellv 5 (v := .int .i64 u.tm.qu) rfl
        have d6 := TB.out.kg.cellv 6 (v := .int .i64 u.tm.qt) rfl
        have d7 := TB.out.kg.cellv 7 (v := .int .i64 u.tm.wi) rfl
        go_wp2
        go_ret
        exact ⟨by rw [E.out]; simp, TB.out.bel⟩
      · go_enter Try.func89, Try.ntmps89
        go_wp2_with fail
        refine (V1.out _ TB.out.bel).mono ?_
        rintro e x ⟨rfl, hb⟩
        replace TB := Lib.hid (TB.out.next hb)
        clear hb c0 c1 c2 c3 c4 c5 c6 c7 d0 d1 d2 d3 d4 d5 d6 d7
        have c0 := TB.out.kf.cellv 0 (v := .slice t.hA t.hn t.hc) rfl
        have c1 := TB.out.kf.cellv 1 (v := .slice t.pA t.pn t.pc) rfl
        have c2 := TB.out.kf.cellv 2 (v := .slice t.dA t.dn t.dc) rfl
        have c3 := TB.out.kf.cellv 3 (v := .int .i64 t.tm.lo) rfl
        have c4 := TB.out.kf.cellv 4 (v := .int .i64 t.tm.un) rfl
        have c5 := TB.out.kf.cellv 5 (v := .int .i64 t.tm.qu) rfl
        have c6 := TB.out.kf.cellv 6 (v := .int .i64 t.tm.qt) rfl
        have c7 := TB.out.kf.cellv 7 (v := .int .i64 t.tm.wi) rfl
        have d0 := TB.out.kg.cellv 0 (v := .slice u.hA u.hn u.hc) rfl
        have d1 := TB.out.kg.cellv 1 (v := .slice u.pA u.pn u.pc) rfl
        have d2 := TB.out.kg.cellv 2 (v := .slice u.dA u.dn u.dc) rfl
        have d3 := TB.out.kg.cellv 3 (v := .int .i64 u.tm.lo) rfl
        have d4 := TB.out.kg.cellv 4 (v := .int .i64 u.tm.un) rfl
        have d5 := TB.out.kg.cellv 5 (v := .int .i64 u.tm.qu) rfl
        have d6 := TB.out.kg.cellv 6 (v := .int .i64 u.tm.qt) rfl
        have d7 := TB.out.kg.cellv 7 (v := .int .i64 u.tm.wi) rfl
        go_wp2_with fail
        refine (V2.out _ TB.out.bel).mono ?_
        rintro e x ⟨rfl, hb⟩
        replace TB := Lib.hid (TB.out.next hb)
        clear hb c0 c1 c2 c3 c4 c5 c6 c7 d0 d1 d2 d3 d4 d5 d6 d7
        have c0 := TB.out.kf.cellv 0 (v := .slice t.hA t.hn t.hc) rfl
        have c1 := TB.out.kf.cellv 1 (v := .slice t.pA t.pn t.pc) rfl
        have c2 := TB.out.kf.cellv 2 (v := .slice t.dA t.dn t.dc) rfl
        have c3 := TB.out.kf.cellv 3 (v := .int .i64 t.tm.lo) rfl
        have c4 := TB.out.kf.cellv 4 (v := .int .i64 t.tm.un) rfl
        have c5 := TB.out.kf.cellv 5 (v := .int .i64 t.tm.qu) rfl
        have c6 := TB.out.kf.cellv 6 (v := .int .i64 t.tm.qt) rfl
        have c7 := TB.out.kf.cellv 7 (v := .int .i64 t.tm.wi) rfl
        have d0 := TB.out.kg.cellv 0 (v := .slice u.hA u.hn u.hc) rfl
        have d1 := TB.out.kg.cellv 1 (v := .slice u.pA u.pn u.pc) rfl
        have d2 := TB.out.kg.cellv 2 (v := .slice u.dA u.dn u.dc) rfl
        have d3 := TB.out.kg.cellv 3 (v := .int .i64 u.tm.lo) rfl
        have d4 := TB.out.kg.cellv 4 (v := .int .i64 u.tm.un) rfl
        have d5 := TB.out.kg.cellv 5 (v := .int .i64 u.tm.qu) rfl
        have d6 := TB.out.kg.cellv 6 (v := .int .i64 u.tm.qt) rfl
        have d7 := TB.out.kg.cellv 7 (v := .int .i64 u.tm.wi) rfl
        go_wp2_with fail
        refine (V3.out _ TB.out.bel).mono ?_
        rintro e x ⟨rfl, hb⟩
        replace TB := Lib.hid (TB.out.next hb)
        clear hb c0 c1 c2 c3 c4 c5 c6 c7 d0 d1 d2 d3 d4 d5 d6 d7
        have c0 := TB.out.kf.cellv 0 (v := .slice t.hA t.hn t.hc) rfl
        have c1 := TB.out.kf.cellv 1 (v := .slice t.pA t.pn t.pc) rfl
        have c2 := TB.out.kf.cellv 2 (v := .slice t.dA t.dn t.dc) rfl
        have c3 := TB.out.kf.cellv 3 (v := .int .i64 t.tm.lo) rfl
        have c4 := TB.out.kf.cellv 4 (v := .int .i64 t.tm.un) rfl
        have c5 := TB.out.kf.cellv 5 (v := .int .i64 t.tm.qu) rfl
        have c6 := TB.out.kf.cellv 6 (v := .int .i64 t.tm.qt) rfl
        have c7 := TB.out.kf.cellv 7 (v := .int .i64 t.tm.wi) rfl
        have d0 := TB.out.kg.cellv 0 (v := .slice u.hA u.hn u.hc) rfl
        have d1 := TB.out.kg.cellv 1 (v := .slice u.pA u.pn u.pc) rfl
        have d2 := TB.out.kg.cellv 2 (v := .slice u.dA u.dn u.dc) rfl
        have d3 := TB.out.kg.cellv 3 (v := .int .i64 u.tm.lo) rfl
        have d4 := TB.out.kg.cellv 4 (v := .int .i64 u.tm.un) rfl
        have d5 := TB.out.kg.cellv 5 (v := .int .i64 u.tm.qu) rfl
        have d6 := TB.out.kg.cellv 6 (v := .int .i64 u.tm.qt) rfl
        have d7 := TB.out.kg.cellv 7 (v := .int .i64 u.tm.wi) rfl
        go_wp2
        all_goals
          go_ret
          exact ⟨by rw [E.out]; congr 1; (simp [*] <;> rfl), TB.out.bel⟩
set_option maxHeartbeats 3200000 in
theorem refSameTeam_any (t u : Tm) (w : World) (ht : t.In w w.heap.size) (hu : u.In w w.heap.size) :
    Calls Try.prog 37 #[t.val, u.val] w fun e w' => e = .returned (.bool (decide (t.tm = u.tm))) ∧ Below w.heap.size w w' := by
  have TB := Lib.hid (tbox2 w t u)
  have h1 := ht.h1; have p1 := ht.p1; have d1 := ht.d1
  have V1 := Lib.hid (fun W (hb : Below w.heap.size w W) => sameInts_b t.hA u.hA t.hn u.hn t.hc u.hc t.tm.hs u.tm.hs W ((ht.h.below hb).more hb.size) ((hu.h.below hb).more hb.size) (by omega))
  have V2 := Lib.hid (fun W (hb : Below w.heap.size w W) => sameInts_b t.pA u.pA t.pn u.pn t.pc u.pc t.tm.ps u.tm.ps W ((ht.p.below hb).more hb.size) ((hu.p.below hb).more hb.size) (by omega))
  have V3 := Lib.hid (fun W (hb : Below w.heap.size w W) => sameInts_b t.dA u.dA t.dn u.dn t.dc u.dc t.tm.ds u.tm.ds W ((ht.d.below hb).more hb.size) ((hu.d.below hb).more hb.size) (by omega))
  have E := Lib.hid (Team.eq_iff t.tm u.tm)
  obtain ⟨R, hR⟩ : ∃ R, R = decide (t.tm = u.tm) := ⟨_, rfl⟩
  rw [← hR] at E ⊢
  clear hR ht hu h1 p1 d1
  generalize decide (t.tm.hs = u.tm.hs) = b1 at V1 E
  generalize decide (t.tm.ps = u.tm.ps) = b2 at V2 E
  generalize decide (t.tm.ds = u.tm.ds) = b3 at V3 E
  have c0 := TB.out.kf.cellv 0 (v := .slice t.hA t.hn t.hc) rfl
  have c1 := TB.out.kf.cellv 1 (v := .slice t.pA t.pn t.pc) rfl
  have c2 := TB.out.kf.cellv 2 (v := .slice t.dA t.dn t.dc) rfl
  have c3 := TB.out.kf.cellv 3 (v := .int .i64 t.tm.lo) rfl
  have c4 := TB.out.kf.cellv 4 (v := .int .i64 t.tm.un) rfl
  have c5 := TB.out.kf.cellv 5 (v := .int .i64 t.tm.qu) rfl
  have c6 := TB.out.kf.cellv 6 (v := .int .i64 t.tm.qt) rfl
  have c7 := TB.out.kf.cellv 7 (v := .int .i64 t.tm.wi) rfl
  have d0 := TB.out.kg.cellv 0 (v := .slice u.hA u.hn u.hc) rfl
  have d1 := TB.out.kg.cellv 1 (v := .slice u.pA u.pn u.pc) rfl
  have d2 := TB.out.kg.cellv 2 (v := .slice u.dA u.dn u.dc) rfl
  have d3 := TB.out.kg.cellv 3 (v := .int .i64 u.tm.lo) rfl
  have d4 := TB.out.kg.cellv 4 (v := .int .i64 u.tm.un) rfl
  have d5 := TB.out.kg.cellv 5 (v := .int .i64 u.tm.qu) rfl
  have d6 := TB.out.kg.cellv 6 (v := .int .i64 u.tm.qt) rfl
  have d7 := TB.out.kg.cellv 7 (v := .int .i64 u.tm.wi) rfl
  cases b1
  · go_enter Try.func37, Try.ntmps37
    go_wp2_with fail
    refine (V1.out _ TB.out.bel).mono ?_
    rintro e x ⟨rfl, hb⟩
    replace TB := Lib.hid (TB.out.next hb)
    clear hb c0 c1 c2 c3 c4 c5 c6 c7 d0 d1 d2 d3 d4 d5 d6 d7
    have c0 := TB.out.kf.cellv 0 (v := .slice t.hA t.hn t.hc) rfl
    have c1 := TB.out.kf.cellv 1 (v := .slice t.pA t.pn t.pc) rfl
    have c2 := TB.out.kf.cellv 2 (v := .slice t.dA t.dn t.dc) rfl
    have c3 := TB.out.kf.cellv 3 (v := .int .i64 t.tm.lo) rfl
    have c4 := TB.out.kf.cellv 4 (v := .int .i64 t.tm.un) rfl
    have c5 := TB.out.kf.cellv 5 (v := .int .i64 t.tm.qu) rfl
    have c6 := TB.out.kf.cellv 6 (v := .int .i64 t.tm.qt) rfl
    have c7 := TB.out.kf.cellv 7 (v := .int .i64 t.tm.wi) rfl
    have d0 := TB.out.kg.cellv 0 (v := .slice u.hA u.hn u.hc) rfl
    have d1 := TB.out.kg.cellv 1 (v := .slice u.pA u.pn u.pc) rfl
    have d2 := TB.out.kg.cellv 2 (v := .slice u.dA u.dn u.dc) rfl
    have d3 := TB.out.kg.cellv 3 (v := .int .i64 u.tm.lo) rfl
    have d4 := TB.out.kg.cellv 4 (v := .int .i64 u.tm.un) rfl
    have d5 := TB.out.kg.cellv 5 (v := .int .i64 u.tm.qu) rfl
    have d6 := TB.out.kg.cellv 6 (v := .int .i64 u.tm.qt) rfl
    have d7 := TB.out.kg.cellv 7 (v := .int .i64 u.tm.wi) rfl
    go_wp2
    go_ret
    exact ⟨by rw [E.out]; simp, TB.out.bel⟩
  · cases b2
    · go_enter Try.func37, Try.ntmps37
      go_wp2_with fail
      refine (V1.out _ TB.out.bel).mono ?_
      rintro e x ⟨rfl, hb⟩
      replace TB := Lib.hid (TB.out.next hb)
      clear hb c0 c1 c2 c3 c4 c5 c6 c7 d0 d1 d2 d3 d4 d5 d6 d7
      have c0 := TB.out.kf.cellv 0 (v := .slice t.hA t.hn t.hc) rfl
      have c1 := TB.out.kf.cellv 1 (v := .slice t.pA t.pn t.pc) rfl
      have c2 := TB.out.kf.cellv 2 (v := .slice t.dA t.dn t.dc) rfl
      have c3 := TB.out.kf.cellv 3 (v := .int .i64 t.tm.lo) rfl
      have c4 := TB.out.kf.cellv 4 (v := .int .i64 t.tm.un) rfl
      have c5 := TB.out.kf.cellv 5 (v := .int .i64 t.tm.qu) rfl
      have c6 := TB.out.kf.cellv 6 (v := .int .i64 t.tm.qt) rfl
      have c7 := TB.out.kf.cellv 7 (v := .int .i64 t.tm.wi) rfl
      have d0 := TB.out.kg.cellv 0 (v := .slice u.hA u.hn u.hc) rfl
      have d1 := TB.out.kg.cellv 1 (v := .slice u.pA u.pn u.pc) rfl
      have d2 := TB.out.kg.cellv 2 (v := .slice u.dA u.dn u.dc) rfl
      have d3 := TB.out.kg.cellv 3 (v := .int .i64 u.tm.lo) rfl
      have d4 := TB.out.kg.cellv 4 (v := .int .i64 u.tm.un) rfl
      have d5 := TB.out.kg.cellv 5 (v := .int .i64 u.tm.qu) rfl
      have d6 := TB.out.kg.cellv 6 (v := .int .i64 u.tm.qt) rfl
      have d7 := TB.out.kg.cellv 7 (v := .int .i64 u.tm.wi) rfl
      go_wp2_with fail
      refine (V2.out _ TB.out.bel).mono ?_
      rintro e x ⟨rfl, hb⟩
      replace TB := Lib.hid (TB.out.next hb)
      clear hb c0 c1 c2 c3 c4 c5 c6 c7 d0 d1 d2 d3 d4 d5 d6 d7
      have c0 := TB.out.kf.cellv 0 (v := .slice t.hA t.hn t.hc) rfl
      have c1 := TB.out.kf.cellv 1 (v := .slice t.pA t.pn t.pc) rfl
      have c2 := TB.out.kf.cellv 2 (v := .slice t.dA t.dn t.dc) rfl
      have c3 := TB.out.kf.cellv 3 (v := .int .i64 t.tm.lo) rfl
      have c4 := TB.out.kf.cellv 4 (v := .int .i64 t.tm.un) rfl
      have c5 := TB.out.kf.cellv 5 (v := .int .i64 t.tm.qu) rfl
      have c6 := TB.out.kf.cellv 6 (v := .int .i64 t.tm.qt) rfl
      have c7 := TB.out.kf.cellv 7 (v := .int .i64 t.tm.wi) rfl
      have d0 := TB.out.kg.cellv 0 (v := .slice u.hA u.hn u.hc) rfl
      have d1 := TB.out.kg.cellv 1 (v := .slice u.pA u.pn u.pc) rfl
      have d2 := TB.out.kg.cellv 2 (v := .slice u.dA u.dn u.dc) rfl
      have d3 := TB.out.kg.cellv 3 (v := .int .i64 u.tm.lo) rfl
      have d4 := TB.out.kg.cellv 4 (v := .int .i64 u.tm.un) rfl
      have d5 := TB.out.kg.cellv 5 (v := .int .i64 u.tm.qu) rfl
      have d6 := TB.out.kg.cellv 6 (v := .int .i64 u.tm.qt) rfl
      have d7 := TB.out.kg.cellv 7 (v := .int .i64 u.tm.wi) rfl
      go_wp2
      go_ret
      exact ⟨by rw [E.out]; simp, TB.out.bel⟩
    · cases b3
      · go_enter Try.func37, Try.ntmps37
        go_wp2_with fail
        refine (V1.out _ TB.out.bel).mono ?_
        rintro e x ⟨rfl, hb⟩
        replace TB := Lib.hid (TB.out.next hb)
        clear hb c0 c1 c2 c3 c4 c5 c6 c7 d0 d1 d2 d3 d4 d5 d6 d7
        have c0 := TB.out.kf.cellv 0 (v := .slice t.hA t.hn t.hc) rfl
        have c1 := TB.out.kf.cellv 1 (v := .slice t.pA t.pn t.pc) rfl
        have c2 := TB.out.kf.cellv 2 (v := .slice t.dA t.dn t.dc) rfl
        have c3 := TB.out.kf.cellv 3 (v := .int .i64 t.tm.lo) rfl
        have c4 := TB.out.kf.cellv 4 (v := .int .i64 t.tm.un) rfl
        have c5 := TB.out.kf.cellv 5 (v := .int .i64 t.tm.qu) rfl
        have c6 := TB.out.kf.cellv 6 (v := .int .i64 t.tm.qt) rfl
        have c7 := TB.out.kf.cellv 7 (v := .int .i64 t.tm.wi) rfl
        have d0 := TB.out.kg.cellv 0 (v := .slice u.hA u.hn u.hc) rfl
        have d1 := TB.out.kg.cellv 1 (v := .slice u.pA u.pn u.pc) rfl
        have d2 := TB.out.kg.cellv 2 (v := .slice u.dA u.dn u.dc) rfl
        have d3 := TB.out.kg.cellv 3 (v := .int .i64 u.tm.lo) rfl
        have d4 := TB.out.kg.cellv 4 (v := .int .i64 u.tm.un) rfl
        have d5 := TB.out.kg.cellv 5 (v := .int .i64 u.tm.qu) rfl
        have d6 := TB.out.kg.cellv 6 (v := .int .i64 u.tm.qt) rfl
        have d7 := TB.out.kg.cellv 7 (v := .int .i64 u.tm.wi) rfl
        go_wp2_with fail
        refine (V2.out _ TB.out.bel).mono ?_
        rintro e x ⟨rfl, hb⟩
        replace TB := Lib.hid (TB.out.next hb)
        clear hb c0 c1 c2 c3 c4 c5 c6 c7 d0 d1 d2 d3 d4 d5 d6 d7
        have c0 := TB.out.kf.cellv 0 (v := .slice t.hA t.hn t.hc) rfl
        have c1 := TB.out.kf.cellv 1 (v := .slice t.pA t.pn t.pc) rfl
        have c2 := TB.out.kf.cellv 2 (v := .slice t.dA t.dn t.dc) rfl
        have c3 := TB.out.kf.cellv 3 (v := .int .i64 t.tm.lo) rfl
        have c4 := TB.out.kf.cellv 4 (v := .int .i64 t.tm.un) rfl
        have c5 := TB.out.kf.cellv 5 (v := .int .i64 t.tm.qu) rfl
        have c6 := TB.out.kf.cellv 6 (v := .int .i64 t.tm.qt) rfl
        have c7 := TB.out.kf.cellv 7 (v := .int .i64 t.tm.wi) rfl
        have d0 := TB.out.kg.cellv 0 (v := .slice u.hA u.hn u.hc) rfl
        have d1 := TB.out.kg.cellv 1 (v := .slice u.pA u.pn u.pc) rfl
        have d2 := TB.out.kg.cellv 2 (v := .slice u.dA u.dn u.dc) rfl
        have d3 := TB.out.kg.cellv 3 (v := .int .i64 u.tm.lo) rfl
        have d4 := TB.out.kg.cellv 4 (v := .int .i64 u.tm.un) rfl
        have d5 := TB.out.kg.cellv 5 (v := .int .i64 u.tm.qu) rfl
        have d6 := TB.out.kg.cellv 6 (v := .int .i64 u.tm.qt) rfl
        have d7 := TB.out.kg.cellv 7 (v := .int .i64 u.tm.wi) rfl
        go_wp2_with fail
        refine (V3.out _ TB.out.bel).mono ?_
        rintro e x ⟨rfl, hb⟩
        replace TB := Lib.hid (TB.out.next hb)
        clear hb c0 c1 c2 c3 c4 c5 c6 c7 d0 d1 d2 d3 d4 d5 d6 d7
        have c0 := TB.out.kf.cellv 0 (v := .slice t.hA t.hn t.hc) rfl
        have c1 := TB.out.kf.cellv 1 (v := .slice t.pA t.pn t.pc) rfl
        have c2 := TB.out.kf.cellv 2 (v := .slice t.dA t.dn t.dc) rfl
        have c3 := TB.out.kf.cellv 3 (v := .int .i64 t.tm.lo) rfl
        have c4 := TB.out.kf.cellv 4 (v := .int .i64 t.tm.un) rfl
        have c5 := TB.out.kf.cellv 5 (v := .int .i64 t.tm.qu) rfl
        have c6 := TB.out.kf.cellv 6 (v := .int .i64 t.tm.qt) rfl
        have c7 := TB.out.kf.cellv 7 (v := .int .i64 t.tm.wi) rfl
        have d0 := TB.out.kg.cellv 0 (v := .slice u.hA u.hn u.hc) rfl
        have d1 := TB.out.kg.cellv 1 (v := .slice u.pA u.pn u.pc) rfl
        have d2 := TB.out.kg.cellv 2 (v := .slice u.dA u.dn u.dc) rfl
        have d3 := TB.out.kg.cellv 3 (v := .int .i64 u.tm.lo) rfl
        have d4 := TB.out.kg.cellv 4 (v := .int .i64 u.tm.un) rfl
        have d5 := TB.out.kg.cellv 5 (v := .int .i64 u.tm.qu) rfl
        have d6 := TB.out.kg.cellv 6 (v := .int .i64 u.tm.qt) rfl
        have d7 := TB.out.kg.cellv 7 (v := .int .i64 u.tm.wi) rfl
        go_wp2
        go_ret
        exact ⟨by rw [E.out]; simp, TB.out.bel⟩
      · go_enter Try.func37, Try.ntmps37
        go_wp2_with fail
        refine (V1.out _ TB.out.bel).mono ?_
        rintro e x ⟨rfl, hb⟩
        replace TB := Lib.hid (TB.out.next hb)
        clear hb c0 c1 c2 c3 c4 c5 c6 c7 d0 d1 d2 d3 d4 d5 d6 d7
        have c0 := TB.out.kf.cellv 0 (v := .slice t.hA t.hn t.hc) rfl
        have c1 := TB.out.kf.cellv 1 (v := .slice t.pA t.pn t.pc) rfl
        have c2 := TB.out.kf.cellv 2 (v := .slice t.dA t.dn t.dc) rfl
        have c3 := TB.out.kf.cellv 3 (v := .int .i64 t.tm.lo) rfl
        have c4 := TB.out.kf.cellv 4 (v := .int .i64 t.tm.un) rfl
        have c5 := TB.out.kf.cellv 5 (v := .int .i64 t.tm.qu) rfl
        have c6 := TB.out.kf.cellv 6 (v := .int .i64 t.tm.qt) rfl
        have c7 := TB.out.kf.cellv 7 (v := .int .i64 t.tm.wi) rfl
        have d0 := TB.out.kg.cellv 0 (v := .slice u.hA u.hn u.hc) rfl
        have d1 := TB.out.kg.cellv 1 (v := .slice u.pA u.pn u.pc) rfl
        have d2 := TB.out.kg.cellv 2 (v := .slice u.dA u.dn u.dc) rfl
        have d3 := TB.out.kg.cellv 3 (v := .int .i64 u.tm.lo) rfl
        have d4 := TB.out.kg.cellv 4 (v := .int .i64 u.tm.un) rfl
        have d5 := TB.out.kg.cellv 5 (v := .int .i64 u.tm.qu) rfl
        have d6 := TB.out.kg.cellv 6 (v := .int .i64 u.tm.qt) rfl
        have d7 := TB.out.kg.cellv 7 (v := .int .i64 u.tm.wi) rfl
        go_wp2_with fail
        refine (V2.out _ TB.out.bel).mono ?_
        rintro e x ⟨rfl, hb⟩
        replace TB := Lib.hid (TB.out.next hb)
        clear hb c0 c1 c2 c3 c4 c5 c6 c7 d0 d1 d2 d3 d4 d5 d6 d7
        have c0 := TB.out.kf.cellv 0 (v := .slice t.hA t.hn t.hc) rfl
        have c1 := TB.out.kf.cellv 1 (v := .slice t.pA t.pn t.pc) rfl
        have c2 := TB.out.kf.cellv 2 (v := .slice t.dA t.dn t.dc) rfl
        have c3 := TB.out.kf.cellv 3 (v := .int .i64 t.tm.lo) rfl
        have c4 := TB.out.kf.cellv 4 (v := .int .i64 t.tm.un) rfl
        have c5 := TB.out.kf.cellv 5 (v := .int .i64 t.tm.qu) rfl
        have c6 := TB.out.kf.cellv 6 (v := .int .i64 t.tm.qt) rfl
        have c7 := TB.out.kf.cellv 7 (v := .int .i64 t.tm.wi) rfl
        have d0 := TB.out.kg.cellv 0 (v := .slice u.hA u.hn u.hc) rfl
        have d1 := TB.out.kg.cellv 1 (v := .slice u.pA u.pn u.pc) rfl
        have d2 := TB.out.kg.cellv 2 (v := .slice u.dA u.dn u.dc) rfl
        have d3 := TB.out.kg.cellv 3 (v := .int .i64 u.tm.lo) rfl
        have d4 := TB.out.kg.cellv 4 (v := .int .i64 u.tm.un) rfl
        have d5 := TB.out.kg.cellv 5 (v := .int .i64 u.tm.qu) rfl
        have d6 := TB.out.kg.cellv 6 (v := .int .i64 u.tm.qt) rfl
        have d7 := TB.out.kg.cellv 7 (v := .int .i64 u.tm.wi) rfl
        go_wp2_with fail
        refine (V3.out _ TB.out.bel).mono ?_
        rintro e x ⟨rfl, hb⟩
        replace TB := Lib.hid (TB.out.next hb)
        clear hb c0 c1 c2 c3 c4 c5 c6 c7 d0 d1 d2 d3 d4 d5 d6 d7
        have c0 := TB.out.kf.cellv 0 (v := .slice t.hA t.hn t.hc) rfl
        have c1 := TB.out.kf.cellv 1 (v := .slice t.pA t.pn t.pc) rfl
        have c2 := TB.out.kf.cellv 2 (v := .slice t.dA t.dn t.dc) rfl
        have c3 := TB.out.kf.cellv 3 (v := .int .i64 t.tm.lo) rfl
        have c4 := TB.out.kf.cellv 4 (v := .int .i64 t.tm.un) rfl
        have c5 := TB.out.kf.cellv 5 (v := .int .i64 t.tm.qu) rfl
        have c6 := TB.out.kf.cellv 6 (v := .int .i64 t.tm.qt) rfl
        have c7 := TB.out.kf.cellv 7 (v := .int .i64 t.tm.wi) rfl
        have d0 := TB.out.kg.cellv 0 (v := .slice u.hA u.hn u.hc) rfl
        have d1 := TB.out.kg.cellv 1 (v := .slice u.pA u.pn u.pc) rfl
        have d2 := TB.out.kg.cellv 2 (v := .slice u.dA u.dn u.dc) rfl
        have d3 := TB.out.kg.cellv 3 (v := .int .i64 u.tm.lo) rfl
        have d4 := TB.out.kg.cellv 4 (v := .int .i64 u.tm.un) rfl
        have d5 := TB.out.kg.cellv 5 (v := .int .i64 u.tm.qu) rfl
        have d6 := TB.out.kg.cellv 6 (v := .int .i64 u.tm.qt) rfl
        have d7 := TB.out.kg.cellv 7 (v := .int .i64 u.tm.wi) rfl
        go_wp2
        all_goals
          go_ret
          exact ⟨by rw [E.out]; congr 1; (simp [*] <;> rfl), TB.out.bel⟩
end Go.Proofs.Ytcbghchciplfcaa
