/-
  CFGSAME2: the reference's Same of configs.
-/
import Derived.Test.YtcbghchciplfcaaCfgSame
import Derived.StillTailTactics
namespace Go.Proofs.Ytcbghchciplfcaa
set_option linter.unusedVariables false
set_option linter.unusedSimpArgs false
set_option maxRecDepth 100000
open Go.RowKit

theorem Cfg.eq_split (c d : Cm) : decide (c.cf = d.cf) = ((decide (c.a = d.a) && decide (c.b = d.b) && decide (c.cl = d.cl)) && decide (c.sl = d.sl) && decide (c.st = d.st) && decide (c.ts.map (·.tm) = d.ts.map (·.tm))) := by
  rw [show decide (c.cf = d.cf) = (decide (c.a = d.a) && decide (c.b = d.b) && decide (c.cl = d.cl) && decide (c.sl = d.sl) && decide (c.ts.map (·.tm) = d.ts.map (·.tm)) && decide (c.st = d.st)) from Cfg.eq_iff c.cf d.cf]
  generalize decide (c.ts.map (·.tm) = d.ts.map (·.tm)) = p
  generalize decide (c.st = d.st) = q
  generalize decide (c.sl = d.sl) = r
  generalize (decide (c.a = d.a) && decide (c.b = d.b) && decide (c.cl = d.cl)) = u
  cases p <;> cases q <;> cases r <;> cases u <;> rfl
theorem Cm.In.go' {c : Cm} {w X : World} (h : c.In w w.heap.size) (hb : Below w.heap.size w X) : c.In X X.heap.size := h.go hb
set_option maxHeartbeats 6400000 in
theorem refSame_any (c d : Cm) (w : World) (hc : c.In w w.heap.size) (hd : d.In w w.heap.size) :
    Calls Try.prog 43 #[c.val, d.val] w fun e w' => e = .returned (.bool (decide (c.cf = d.cf))) ∧ Below w.heap.size w w' := by
  have CB := Lib.hid (cbox2 w c d)
  have t1 := hc.t1
  have V1 := Lib.hid (fun W (hb : Below w.heap.size w W) => floorSame_any c.a c.b d.a d.b c.fA d.fA c.fn d.fn c.fc d.fc c.cl d.cl W ((hc.f.below hb).more hb.size) ((hd.f.below hb).more hb.size))
  have Q1 := Lib.hid (fun W (hb : Below w.heap.size w W) => run_str (P := Try.prog) 28 5 9 Try.underlying28 Try.underlying5 Try.underlying9 (c := c.sc) (hc.s.below hb))
  have Q2 := Lib.hid (fun W (hb : Below w.heap.size w W) => run_str (P := Try.prog) 28 5 9 Try.underlying28 Try.underlying5 Try.underlying9 (c := d.sc) (hd.s.below hb))
  have E := Lib.hid (show decide (c.cf = d.cf) = ((decide (c.a = d.a) && decide (c.b = d.b) && decide (c.cl = d.cl)) && decide (c.sl = d.sl) && decide (c.st = d.st) && decide (c.ts.map (·.tm) = d.ts.map (·.tm))) from Cfg.eq_split c d)
  have HC := Lib.hid hc
  have HD := Lib.hid hd
  obtain ⟨R, hR⟩ : ∃ R, R = decide (c.cf = d.cf) := ⟨_, rfl⟩
  rw [← hR] at E ⊢
  clear hR hc hd
  generalize (decide (c.a = d.a) && decide (c.b = d.b) && decide (c.cl = d.cl)) = b1 at V1 E
  have c0 := CB.out.kf.cellv 0 (v := .int .i64 c.a) rfl
  have c1 := CB.out.kf.cellv 1 (v := .int .i64 c.b) rfl
  have c2 := CB.out.kf.cellv 2 (v := .slice c.fA c.fn c.fc) rfl
  have c3 := CB.out.kf.cellv 3 (v := .slice c.sA c.sn c.sc) rfl
  have c4 := CB.out.kf.cellv 4 (v := .slice c.tA c.tn c.tc) rfl
  have c5 := CB.out.kf.cellv 5 (v := .int .u64 (c.st : Int)) rfl
  have d0 := CB.out.kg.cellv 0 (v := .int .i64 d.a) rfl
  have d1 := CB.out.kg.cellv 1 (v := .int .i64 d.b) rfl
  have d2 := CB.out.kg.cellv 2 (v := .slice d.fA d.fn d.fc) rfl
  have d3 := CB.out.kg.cellv 3 (v := .slice d.sA d.sn d.sc) rfl
  have d4 := CB.out.kg.cellv 4 (v := .slice d.tA d.tn d.tc) rfl
  have d5 := CB.out.kg.cellv 5 (v := .int .u64 (d.st : Int)) rfl
  cases b1
  · go_enter Try.func43, Try.ntmps43
    go_wp2_with fail
    refine (V1.out _ CB.out.bel).mono ?_
    rintro e x ⟨rfl, hb⟩
    replace CB := Lib.hid (CB.out.next hb)
    clear hb
    clear c0 c1 c2 c3 c4 c5 d0 d1 d2 d3 d4 d5
    have c0 := CB.out.kf.cellv 0 (v := .int .i64 c.a) rfl
    have c1 := CB.out.kf.cellv 1 (v := .int .i64 c.b) rfl
    have c2 := CB.out.kf.cellv 2 (v := .slice c.fA c.fn c.fc) rfl
    have c3 := CB.out.kf.cellv 3 (v := .slice c.sA c.sn c.sc) rfl
    have c4 := CB.out.kf.cellv 4 (v := .slice c.tA c.tn c.tc) rfl
    have c5 := CB.out.kf.cellv 5 (v := .int .u64 (c.st : Int)) rfl
    have d0 := CB.out.kg.cellv 0 (v := .int .i64 d.a) rfl
    have d1 := CB.out.kg.cellv 1 (v := .int .i64 d.b) rfl
    have d2 := CB.out.kg.cellv 2 (v := .slice d.fA d.fn d.fc) rfl
    have d3 := CB.out.kg.cellv 3 (v := .slice d.sA d.sn d.sc) rfl
    have d4 := CB.out.kg.cellv 4 (v := .slice d.tA d.tn d.tc) rfl
    have d5 := CB.out.kg.cellv 5 (v := .int .u64 (d.st : Int)) rfl
    go_wp2
    go_ret
    exact ⟨by rw [E.out]; first | rfl | (simp only [Bool.and_false, Bool.false_and]; rfl), CB.out.bel⟩
  · by_cases hs : c.sl = d.sl
    · rw [hs] at Q1
      replace E := Lib.hid (by have E2 := E.out; rw [decide_eq_true hs] at E2; exact E2)
      clear hs
      by_cases hs : c.st = d.st
      · replace E := Lib.hid (by have E2 := E.out; rw [decide_eq_true hs] at E2; exact E2)
        have hs' : ((c.st : Int) != (d.st : Int)) = false := by simp [hs]
        clear hs
        by_cases hn : c.tn = d.tn
        · have hn' : ((c.tn : Int) != (d.tn : Int)) = false := by simp [hn]
          have HN := Lib.hid hn
          clear hn
          go_enter Try.func43, Try.ntmps43
          go_wp2_with fail
          refine (V1.out _ CB.out.bel).mono ?_
          rintro e x ⟨rfl, hb⟩
          replace CB := Lib.hid (CB.out.next hb)
          clear hb
          clear c0 c1 c2 c3 c4 c5 d0 d1 d2 d3 d4 d5
          have c0 := CB.out.kf.cellv 0 (v := .int .i64 c.a) rfl
          have c1 := CB.out.kf.cellv 1 (v := .int .i64 c.b) rfl
          have c2 := CB.out.kf.cellv 2 (v := .slice c.fA c.fn c.fc) rfl
          have c3 := CB.out.kf.cellv 3 (v := .slice c.sA c.sn c.sc) rfl
          have c4 := CB.out.kf.cellv 4 (v := .slice c.tA c.tn c.tc) rfl
          have c5 := CB.out.kf.cellv 5 (v := .int .u64 (c.st : Int)) rfl
          have d0 := CB.out.kg.cellv 0 (v := .int .i64 d.a) rfl
          have d1 := CB.out.kg.cellv 1 (v := .int .i64 d.b) rfl
          have d2 := CB.out.kg.cellv 2 (v := .slice d.fA d.fn d.fc) rfl
          have d3 := CB.out.kg.cellv 3 (v := .slice d.sA d.sn d.sc) rfl
          have d4 := CB.out.kg.cellv 4 (v := .slice d.tA d.tn d.tc) rfl
          have d5 := CB.out.kg.cellv 5 (v := .int .u64 (d.st : Int)) rfl
          have q1 := Q1.out _ CB.out.bel
          have q2 := Q2.out _ CB.out.bel
          go_wp2
          clear c0 c1 c2 c3 c4 c5 d0 d1 d2 d3 d4 d5
          clear q1 q2 Q1 Q2 hs' hn'
          go_loopw [5] (fun i wr => ∃ k : Nat, k ≤ c.tn ∧ i = .int .i64 (k : Int) ∧ Hid (CBox2 w wr c d) ∧ Hid ((c.ts.map (·.tm)).take k = (d.ts.map (·.tm)).take k))
            (fun i _ => c.tn - (intOf i).toNat)
          case atStart => exact ⟨0, Nat.zero_le _, rfl, CB, Lib.hid rfl⟩
          case round =>
            clear CB x
            obtain ⟨k, hk, rfl, CB, hall⟩ := hrel
            by_cases hlt : k < c.tn
            · obtain ⟨ad, t, hA, had, hx, hct⟩ := teams_at (HC.out.go CB.out.bel).t hlt
              obtain ⟨ad', u, hA', had', hx', hcu⟩ := teams_at (HD.out.go CB.out.bel).t (show k < d.tn by rw [← HN.out]; exact hlt)
              have HT := Lib.hid ((HC.out.go CB.out.bel).ts t (List.mem_of_getElem? hx))
              have HU := Lib.hid ((HD.out.go CB.out.bel).ts u (List.mem_of_getElem? hx'))
              have HX := Lib.hid hx; have HX' := Lib.hid hx'
              have c0 := CB.out.kf.cellv 0 (v := .int .i64 c.a) rfl
              have c1 := CB.out.kf.cellv 1 (v := .int .i64 c.b) rfl
              have c2 := CB.out.kf.cellv 2 (v := .slice c.fA c.fn c.fc) rfl
              have c3 := CB.out.kf.cellv 3 (v := .slice c.sA c.sn c.sc) rfl
              have c4 := CB.out.kf.cellv 4 (v := .slice c.tA c.tn c.tc) rfl
              have c5 := CB.out.kf.cellv 5 (v := .int .u64 (c.st : Int)) rfl
              have d0 := CB.out.kg.cellv 0 (v := .int .i64 d.a) rfl
              have d1 := CB.out.kg.cellv 1 (v := .int .i64 d.b) rfl
              have d2 := CB.out.kg.cellv 2 (v := .slice d.fA d.fn d.fc) rfl
              have d3 := CB.out.kg.cellv 3 (v := .slice d.sA d.sn d.sc) rfl
              have d4 := CB.out.kg.cellv 4 (v := .slice d.tA d.tn d.tc) rfl
              have d5 := CB.out.kg.cellv 5 (v := .int .u64 (d.st : Int)) rfl
              rw [hA] at c4
              rw [hA'] at d4
              obtain ⟨f0, f1, f2, f3, f4, f5, f6, f7⟩ := team_spelled (p := ad.add (k * 8)) (fun j v hv => by rw [add_of_add]; exact hct j v hv)
              obtain ⟨g0, g1, g2, g3, g4, g5, g6, g7⟩ := team_spelled (p := ad'.add (k * 8)) (fun j v hv => by rw [add_of_add]; exact hcu j v hv)
              clear hx hx' hct hcu hA hA' c0 c1 c2 c3 c5 d0 d1 d2 d3 d5
              have k0 : (0 : Int) ≤ (k : Int) := by omega
              have k1 : (k : Int) < (c.tn : Int) := by omega
              have k2 : (k : Int) < (d.tn : Int) := by have := HN.out; omega
              have S := Lib.hid (fun W (hb : Below wr.heap.size wr W) => refSameTeam_any t u W (HT.out.go hb) (HU.out.go hb))
              by_cases he : t.tm = u.tm
              · rw [decide_eq_true he] at S
                have HE := Lib.hid he
                clear he had had'
                go_wp2
                go_still_tail 10, (by kernel_rfl)
                change wpList _ _ _ _ _ wr.drew
                go_wp2_with fail
                refine (S.out _ (bk_drew (Below.refl _ _))).mono ?_
                rintro e x ⟨rfl, hb⟩
                replace CB := Lib.hid (CB.out.next ((bk_drew (Below.refl _ _)).trans hb))
                clear hb c4 d4 f0 f1 f2 f3 f4 f5 f6 f7 g0 g1 g2 g3 g4 g5 g6 g7
                go_wp2
                go_roundw
                case rel => exact ⟨k + 1, by omega, by go_num, CB, Lib.hid (by rw [List.take_add_one, List.take_add_one, hall.out, List.getElem?_map, List.getElem?_map, HX.out, HX'.out]; simp [HE.out])⟩
                case measure => simp [intOf]; omega
              · rw [decide_eq_false he] at S
                have HE := Lib.hid he
                clear he had had'
                go_wp2
                go_still_tail 10, (by kernel_rfl)
                change wpList _ _ _ _ _ wr.drew
                go_wp2_with fail
                refine (S.out _ (bk_drew (Below.refl _ _))).mono ?_
                rintro e x ⟨rfl, hb⟩
                replace CB := Lib.hid (CB.out.next ((bk_drew (Below.refl _ _)).trans hb))
                clear hb c4 d4 f0 f1 f2 f3 f4 f5 f6 f7 g0 g1 g2 g3 g4 g5 g6 g7
                go_wp2
                go_ret
                have hz : decide (c.ts.map (·.tm) = d.ts.map (·.tm)) = false := decide_eq_false (fun h => HE.out (by have := congrArg (fun l : List Team => l[k]?) h; simpa [HX.out, HX'.out] using this))
                exact ⟨by rw [E.out, hz]; rfl, CB.out.bel⟩
            · obtain rfl : k = c.tn := by omega
              have c0 := CB.out.kf.cellv 0 (v := .int .i64 c.a) rfl
              have c1 := CB.out.kf.cellv 1 (v := .int .i64 c.b) rfl
              have c2 := CB.out.kf.cellv 2 (v := .slice c.fA c.fn c.fc) rfl
              have c3 := CB.out.kf.cellv 3 (v := .slice c.sA c.sn c.sc) rfl
              have c4 := CB.out.kf.cellv 4 (v := .slice c.tA c.tn c.tc) rfl
              have c5 := CB.out.kf.cellv 5 (v := .int .u64 (c.st : Int)) rfl
              have d0 := CB.out.kg.cellv 0 (v := .int .i64 d.a) rfl
              have d1 := CB.out.kg.cellv 1 (v := .int .i64 d.b) rfl
              have d2 := CB.out.kg.cellv 2 (v := .slice d.fA d.fn d.fc) rfl
              have d3 := CB.out.kg.cellv 3 (v := .slice d.sA d.sn d.sc) rfl
              have d4 := CB.out.kg.cellv 4 (v := .slice d.tA d.tn d.tc) rfl
              have d5 := CB.out.kg.cellv 5 (v := .int .u64 (d.st : Int)) rfl
              go_wp2
              go_ret
              have hz : decide (c.ts.map (·.tm) = d.ts.map (·.tm)) = true := decide_eq_true (by have := hall.out; rwa [List.take_of_length_le (by simp [HC.out.len]), List.take_of_length_le (by simp [HD.out.len, HN.out])] at this)
              exact ⟨by rw [E.out, hz]; rfl, CB.out.bel⟩
        · have hn' : ((c.tn : Int) != (d.tn : Int)) = true := by simp; omega
          have hz : c.ts.map (·.tm) ≠ d.ts.map (·.tm) := fun h => hn (by have := congrArg List.length h; simp at this; rw [← HC.out.len, ← HD.out.len]; exact this)
          replace E := Lib.hid (by have E2 := E.out; rw [decide_eq_false hz] at E2; exact E2)
          clear hn hz
          go_enter Try.func43, Try.ntmps43
          go_wp2_with fail
          refine (V1.out _ CB.out.bel).mono ?_
          rintro e x ⟨rfl, hb⟩
          replace CB := Lib.hid (CB.out.next hb)
          clear hb
          clear c0 c1 c2 c3 c4 c5 d0 d1 d2 d3 d4 d5
          have c0 := CB.out.kf.cellv 0 (v := .int .i64 c.a) rfl
          have c1 := CB.out.kf.cellv 1 (v := .int .i64 c.b) rfl
          have c2 := CB.out.kf.cellv 2 (v := .slice c.fA c.fn c.fc) rfl
          have c3 := CB.out.kf.cellv 3 (v := .slice c.sA c.sn c.sc) rfl
          have c4 := CB.out.kf.cellv 4 (v := .slice c.tA c.tn c.tc) rfl
          have c5 := CB.out.kf.cellv 5 (v := .int .u64 (c.st : Int)) rfl
          have d0 := CB.out.kg.cellv 0 (v := .int .i64 d.a) rfl
          have d1 := CB.out.kg.cellv 1 (v := .int .i64 d.b) rfl
          have d2 := CB.out.kg.cellv 2 (v := .slice d.fA d.fn d.fc) rfl
          have d3 := CB.out.kg.cellv 3 (v := .slice d.sA d.sn d.sc) rfl
          have d4 := CB.out.kg.cellv 4 (v := .slice d.tA d.tn d.tc) rfl
          have d5 := CB.out.kg.cellv 5 (v := .int .u64 (d.st : Int)) rfl
          have q1 := Q1.out _ CB.out.bel
          have q2 := Q2.out _ CB.out.bel
          go_wp2
          go_ret
          exact ⟨by rw [E.out]; rfl, CB.out.bel⟩
      · replace E := Lib.hid (by have E2 := E.out; rw [decide_eq_false hs] at E2; exact E2)
        have hs' : ((c.st : Int) != (d.st : Int)) = true := by simp; omega
        clear hs
        go_enter Try.func43, Try.ntmps43
        go_wp2_with fail
        refine (V1.out _ CB.out.bel).mono ?_
        rintro e x ⟨rfl, hb⟩
        replace CB := Lib.hid (CB.out.next hb)
        clear hb
        clear c0 c1 c2 c3 c4 c5 d0 d1 d2 d3 d4 d5
        have c0 := CB.out.kf.cellv 0 (v := .int .i64 c.a) rfl
        have c1 := CB.out.kf.cellv 1 (v := .int .i64 c.b) rfl
        have c2 := CB.out.kf.cellv 2 (v := .slice c.fA c.fn c.fc) rfl
        have c3 := CB.out.kf.cellv 3 (v := .slice c.sA c.sn c.sc) rfl
        have c4 := CB.out.kf.cellv 4 (v := .slice c.tA c.tn c.tc) rfl
        have c5 := CB.out.kf.cellv 5 (v := .int .u64 (c.st : Int)) rfl
        have d0 := CB.out.kg.cellv 0 (v := .int .i64 d.a) rfl
        have d1 := CB.out.kg.cellv 1 (v := .int .i64 d.b) rfl
        have d2 := CB.out.kg.cellv 2 (v := .slice d.fA d.fn d.fc) rfl
        have d3 := CB.out.kg.cellv 3 (v := .slice d.sA d.sn d.sc) rfl
        have d4 := CB.out.kg.cellv 4 (v := .slice d.tA d.tn d.tc) rfl
        have d5 := CB.out.kg.cellv 5 (v := .int .u64 (d.st : Int)) rfl
        have q1 := Q1.out _ CB.out.bel
        have q2 := Q2.out _ CB.out.bel
        go_wp2
        go_ret
        exact ⟨by rw [E.out]; rfl, CB.out.bel⟩
    · replace E := Lib.hid (by have E2 := E.out; rw [decide_eq_false hs] at E2; exact E2)
      go_enter Try.func43, Try.ntmps43
      go_wp2_with fail
      refine (V1.out _ CB.out.bel).mono ?_
      rintro e x ⟨rfl, hb⟩
      replace CB := Lib.hid (CB.out.next hb)
      clear hb
      clear c0 c1 c2 c3 c4 c5 d0 d1 d2 d3 d4 d5
      have c0 := CB.out.kf.cellv 0 (v := .int .i64 c.a) rfl
      have c1 := CB.out.kf.cellv 1 (v := .int .i64 c.b) rfl
      have c2 := CB.out.kf.cellv 2 (v := .slice c.fA c.fn c.fc) rfl
      have c3 := CB.out.kf.cellv 3 (v := .slice c.sA c.sn c.sc) rfl
      have c4 := CB.out.kf.cellv 4 (v := .slice c.tA c.tn c.tc) rfl
      have c5 := CB.out.kf.cellv 5 (v := .int .u64 (c.st : Int)) rfl
      have d0 := CB.out.kg.cellv 0 (v := .int .i64 d.a) rfl
      have d1 := CB.out.kg.cellv 1 (v := .int .i64 d.b) rfl
      have d2 := CB.out.kg.cellv 2 (v := .slice d.fA d.fn d.fc) rfl
      have d3 := CB.out.kg.cellv 3 (v := .slice d.sA d.sn d.sc) rfl
      have d4 := CB.out.kg.cellv 4 (v := .slice d.tA d.tn d.tc) rfl
      have d5 := CB.out.kg.cellv 5 (v := .int .u64 (d.st : Int)) rfl
      have q1 := Q1.out _ CB.out.bel
      have q2 := Q2.out _ CB.out.bel
      go_wp2
      go_ret
      exact ⟨by rw [E.out]; rfl, CB.out.bel⟩
end Go.Proofs.Ytcbghchciplfcaa
