/-
  CFGREFT: the reference's teams, Check.
-/
import Derived.Test.YtcbghchciplfcaaCfgMath
import Derived.Deep.RegionHeld3
namespace Go.Proofs.Ytcbghchciplfcaa
set_option linter.unusedVariables false
set_option linter.unusedSimpArgs false
set_option maxRecDepth 100000
open Go.RowKit

theorem btw3_false {n : Nat} : (btw 3 (n : Int) = false) ↔ n < 1 ∨ n > 3 := by unfold btw; simp; omega
theorem all_take_snoc {l : List UInt8} {k : Nat} {x : UInt8} {f : UInt8 → Bool} (hx : l[k]? = some x) (h : (l.take k).all f = true) (hf : f x = true) : (l.take (k + 1)).all f = true := by
  rw [List.take_add_one, hx, List.all_append, h]; simp [hf]
set_option maxHeartbeats 6400000 in
theorem refTeams_any (c : Cm) (w : World) (hc : c.In w w.heap.size) (hv : floorB c.a c.b c.cl = true) :
    Calls Try.prog 84 #[c.val] w fun e w' => e = .returned (.bool (teamsR c.cl c.sl c.cf.ts)) ∧ Below w.heap.size w w' := by
  have CB := Lib.hid (cbox w c)
  have hl2 : c.cf.ts.length = c.tn := by rw [← hc.len]; simp [Cm.cf]
  have f1 := hc.f1
  have hsl : c.sl.length = c.sn := hc.s.blen
  have hcl : c.cl.length = c.fn := hc.f.blen
  have E : Hid (teamsR c.cl c.sl c.cf.ts = (btw 3 (c.tn : Int) && okTo c.cl c.cf.ts c.tn && c.cl.all (belB c.cf.ts) && c.sl.all (belB c.cf.ts) && someTo c.cf.ts c.tn)) := Lib.hid (by unfold teamsR; rw [hl2])
  have VT := Lib.hid (fun (t : Int) (m : Tm) (ht : 0 ≤ t ∧ t < 3) W (hb : Below w.heap.size w W) (hm : m.In W W.heap.size) => validTeam_any c.a c.b c.fA c.fn c.fc c.cl t m W ((hc.f.below hb).more hb.size) (by omega) hv ht hm)
  have BL := Lib.hid (fun (v : UInt8) W (hb : Below w.heap.size w W) => belongs_any c v W (hc.go hb))
  have RA := Lib.hid (fun (m : Tm) W (hm : m.In W W.heap.size) => refAbsent_any m W hm)
  have CI := Lib.hid hc
  have HL := Lib.hid hl2
  have HS := Lib.hid hsl
  have HC := Lib.hid hcl
  have fb := hc.f1.2
  have sb := hc.s1.2
  rw [E.out]
  clear hc hv hl2 E f1 hsl hcl
  cases hb3 : btw 3 (c.tn : Int)
  · have hx := btw3_false.1 hb3
    by_cases h1 : c.tn < 1
    · have d1 : decide ((c.tn : Int) < 1) = true := by simp; omega
      have d1' : decide (c.tn < 1) = true := by simp; omega
      clear hx h1 hb3
      go_enter Try.func84, Try.ntmps84
      go_upto_region 1 with fail
      generalize World.alloc _ _ = X at CB ⊢
      have c0 := CB.out.kf.cellv 0 (v := .int .i64 c.a) rfl
      have c1 := CB.out.kf.cellv 1 (v := .int .i64 c.b) rfl
      have c2 := CB.out.kf.cellv 2 (v := .slice c.fA c.fn c.fc) rfl
      have c3 := CB.out.kf.cellv 3 (v := .slice c.sA c.sn c.sc) rfl
      have c4 := CB.out.kf.cellv 4 (v := .slice c.tA c.tn c.tc) rfl
      have c5 := CB.out.kf.cellv 5 (v := .int .u64 (c.st : Int)) rfl
      go_wp2
      go_ret
      exact ⟨rfl, CB.out.bel⟩
    · have d1 : decide ((c.tn : Int) < 1) = false := by simp; omega
      have d1' : decide (c.tn < 1) = false := by simp; omega
      have d2 : decide ((c.tn : Int) > 3) = true := by simp; omega
      have d2' : decide (3 < c.tn) = true := by simp; omega
      clear hx h1 hb3
      go_enter Try.func84, Try.ntmps84
      go_upto_region 1 with fail
      generalize World.alloc _ _ = X at CB ⊢
      have c0 := CB.out.kf.cellv 0 (v := .int .i64 c.a) rfl
      have c1 := CB.out.kf.cellv 1 (v := .int .i64 c.b) rfl
      have c2 := CB.out.kf.cellv 2 (v := .slice c.fA c.fn c.fc) rfl
      have c3 := CB.out.kf.cellv 3 (v := .slice c.sA c.sn c.sc) rfl
      have c4 := CB.out.kf.cellv 4 (v := .slice c.tA c.tn c.tc) rfl
      have c5 := CB.out.kf.cellv 5 (v := .int .u64 (c.st : Int)) rfl
      go_wp2
      go_ret
      exact ⟨rfl, CB.out.bel⟩
  · have hn3 : 1 ≤ c.tn ∧ c.tn ≤ 3 := by unfold btw at hb3; simp at hb3; omega
    have d1 : decide ((c.tn : Int) < 1) = false := by simp; omega
    have d1' : decide (c.tn < 1) = false := by simp; omega
    have d2 : decide ((c.tn : Int) > 3) = false := by simp; omega
    have d2' : decide (3 < c.tn) = false := by simp; omega
    rw [Bool.true_and]
    clear hb3
    go_enter Try.func84, Try.ntmps84
    go_upto_region 1 with fail
    generalize World.alloc _ _ = X at CB ⊢
    have c0 := CB.out.kf.cellv 0 (v := .int .i64 c.a) rfl
    have c1 := CB.out.kf.cellv 1 (v := .int .i64 c.b) rfl
    have c2 := CB.out.kf.cellv 2 (v := .slice c.fA c.fn c.fc) rfl
    have c3 := CB.out.kf.cellv 3 (v := .slice c.sA c.sn c.sc) rfl
    have c4 := CB.out.kf.cellv 4 (v := .slice c.tA c.tn c.tc) rfl
    have c5 := CB.out.kf.cellv 5 (v := .int .u64 (c.st : Int)) rfl
    go_wp2
    clear c0 c1 c2 c3 c4 c5
    clear d1 d1' d2 d2'
    go_loopw [3, 4] (fun s i wr => ∃ k : Nat, k ≤ c.tn ∧ i = .int .i64 (k : Int) ∧ s = .bool (someTo c.cf.ts k) ∧ Hid (CBox w wr c) ∧ Hid (okTo c.cl c.cf.ts k = true))
      (fun _ i _ => c.tn - (intOf i).toNat)
    case atStart => exact ⟨0, Nat.zero_le _, rfl, rfl, CB, Lib.hid rfl⟩
    case round =>
      clear CB
      obtain ⟨k, hk, rfl, rfl, CB, hOK⟩ := hrel
      by_cases hlt : k < c.tn
      · obtain ⟨ad, m, hA, had, hx, hct⟩ := teams_at CI.out.t hlt
        have HT := Lib.hid ((CI.out.go CB.out.bel).ts m (List.mem_of_getElem? hx))
        have hat : okAt c.cl c.cf.ts k = (m.tm.absB || m.tm.validB c.cl (k : Int)) := by
          unfold okAt
          rw [show c.cf.ts[k]? = some m.tm from by show (c.ts.map (·.tm))[k]? = _; rw [List.getElem?_map, hx]; rfl]
        have hpr : presB c.cf.ts (k : Int) = !m.tm.absB := presB_at (by show (c.ts.map (·.tm))[k]? = _; rw [List.getElem?_map, hx]; rfl)
        have GG : Hid (∀ W, Below w.heap.size w W → ∀ j v, m.cells[j]? = some v → W.cell? ((ad.add (k * 8)).add j) = some v) := Lib.hid fun W hb j v hv => by rw [add_of_add]; exact (hb.cell (by rw [block_of_add]; exact had)).trans (hct j v hv)
        have k0 : (0 : Int) ≤ (k : Int) := by omega
        have k1 : (k : Int) < (c.tn : Int) := by omega
        have HA := Lib.hid hA
        have RAK := Lib.hid (RA.out m wr HT.out)
        have S1 : Hid (someTo c.cf.ts (k + 1) = (someTo c.cf.ts k || !m.tm.absB)) := Lib.hid (by show (_ || _) = _; rw [hpr])
        have O1 : Hid (okTo c.cl c.cf.ts (k + 1) = okAt c.cl c.cf.ts k) := Lib.hid (by show (_ && _) = _; rw [hOK.out, Bool.true_and])
        have HAT := Lib.hid hat
        clear hx hct had hat hpr
        have c0 := CB.out.kf.cellv 0 (v := .int .i64 c.a) rfl
        have c1 := CB.out.kf.cellv 1 (v := .int .i64 c.b) rfl
        have c2 := CB.out.kf.cellv 2 (v := .slice c.fA c.fn c.fc) rfl
        have c3 := CB.out.kf.cellv 3 (v := .slice c.sA c.sn c.sc) rfl
        have c4 := CB.out.kf.cellv 4 (v := .slice c.tA c.tn c.tc) rfl
        have c5 := CB.out.kf.cellv 5 (v := .int .u64 (c.st : Int)) rfl
        rw [hA] at c4
        rw [hA]
        obtain ⟨g0, g1, g2, g3, g4, g5, g6, g7⟩ := team_spelled (GG.out wr CB.out.bel)
        clear hA
        cases hab : m.tm.absB
        · rw [hab] at RAK S1 HAT
          clear hab
          go_wp2_with fail
          refine RAK.out.mono ?_
          rintro e x ⟨rfl, hb⟩
          replace CB := Lib.hid (CB.out.next hb)
          have HTX := Lib.hid (HT.out.go hb)
          clear hb g0 g1 g2 g3 g4 g5 g6 g7
          clear c0 c1 c2 c3 c4 c5
          have c0 := CB.out.kf.cellv 0 (v := .int .i64 c.a) rfl
          have c1 := CB.out.kf.cellv 1 (v := .int .i64 c.b) rfl
          have c2 := CB.out.kf.cellv 2 (v := .slice c.fA c.fn c.fc) rfl
          have c3 := CB.out.kf.cellv 3 (v := .slice c.sA c.sn c.sc) rfl
          have c4 := CB.out.kf.cellv 4 (v := .slice c.tA c.tn c.tc) rfl
          have c5 := CB.out.kf.cellv 5 (v := .int .u64 (c.st : Int)) rfl
          rw [HA.out] at c4
          have CALL := Lib.hid (fun W (hb : Below x.heap.size x W) => (VT.out (k : Int) m ⟨by omega, by omega⟩ W (CB.out.bel.trans (hb.mono CB.out.bel.size)) (HTX.out.go hb)).mono (R' := fun e w' => e = .returned (.bool (m.tm.validB c.cl (k : Int))) ∧ Below x.heap.size x w') fun _ _ h => ⟨h.1, hb.trans (h.2.mono hb.size)⟩)
          have KS : Hid (∀ W', Below x.heap.size x W' → Below x.heap.size x W' ∧ W'.cell? ⟨w.heap.size, 0, none⟩ = some (.int .i64 c.a) ∧ W'.cell? ⟨w.heap.size, 1, none⟩ = some (.int .i64 c.b) ∧ W'.cell? ⟨w.heap.size, 2, none⟩ = some (.slice c.fA c.fn c.fc) ∧ W'.cell? ⟨w.heap.size, 4, none⟩ = some (.slice (some ad) c.tn c.tc) ∧
              W'.cell? (ad.add (k * 8)) = some (.slice m.hA m.hn m.hc) ∧ W'.cell? ⟨(ad.add (k * 8)).block, (ad.add (k * 8)).off + 1, none⟩ = some (.slice m.pA m.pn m.pc) ∧ W'.cell? ⟨(ad.add (k * 8)).block, (ad.add (k * 8)).off + 2, none⟩ = some (.slice m.dA m.dn m.dc) ∧
              W'.cell? ⟨(ad.add (k * 8)).block, (ad.add (k * 8)).off + 3, none⟩ = some (.int .i64 m.tm.lo) ∧ W'.cell? ⟨(ad.add (k * 8)).block, (ad.add (k * 8)).off + 4, none⟩ = some (.int .i64 m.tm.un) ∧ W'.cell? ⟨(ad.add (k * 8)).block, (ad.add (k * 8)).off + 5, none⟩ = some (.int .i64 m.tm.qu) ∧
              W'.cell? ⟨(ad.add (k * 8)).block, (ad.add (k * 8)).off + 6, none⟩ = some (.int .i64 m.tm.qt) ∧ W'.cell? ⟨(ad.add (k * 8)).block, (ad.add (k * 8)).off + 7, none⟩ = some (.int .i64 m.tm.wi)) :=
            Lib.hid (fun W' hb => ⟨hb, (CB.out.next hb).kf.cellv 0 rfl, (CB.out.next hb).kf.cellv 1 rfl, (CB.out.next hb).kf.cellv 2 rfl, by rw [← HA.out]; exact (CB.out.next hb).kf.cellv 4 rfl, team_spelled (GG.out W' (CB.out.next hb).bel)⟩)
          generalize m.tm.validB c.cl (k : Int) = R at CALL HAT
          go_wp2
          clear c0 c1 c2 c3 c4 c5
          go_cut [39] (fun s wx => s = .bool (!R) ∧ Hid (Below x.heap.size x wx))
          case first =>
            go_region_held3 (fun W' => Below x.heap.size x W' ∧ W'.cell? ⟨w.heap.size, 0, none⟩ = some (.int .i64 c.a) ∧ W'.cell? ⟨w.heap.size, 1, none⟩ = some (.int .i64 c.b) ∧ W'.cell? ⟨w.heap.size, 2, none⟩ = some (.slice c.fA c.fn c.fc) ∧ W'.cell? ⟨w.heap.size, 4, none⟩ = some (.slice (some ad) c.tn c.tc) ∧
              W'.cell? (ad.add (k * 8)) = some (.slice m.hA m.hn m.hc) ∧ W'.cell? ⟨(ad.add (k * 8)).block, (ad.add (k * 8)).off + 1, none⟩ = some (.slice m.pA m.pn m.pc) ∧ W'.cell? ⟨(ad.add (k * 8)).block, (ad.add (k * 8)).off + 2, none⟩ = some (.slice m.dA m.dn m.dc) ∧
              W'.cell? ⟨(ad.add (k * 8)).block, (ad.add (k * 8)).off + 3, none⟩ = some (.int .i64 m.tm.lo) ∧ W'.cell? ⟨(ad.add (k * 8)).block, (ad.add (k * 8)).off + 4, none⟩ = some (.int .i64 m.tm.un) ∧ W'.cell? ⟨(ad.add (k * 8)).block, (ad.add (k * 8)).off + 5, none⟩ = some (.int .i64 m.tm.qu) ∧
              W'.cell? ⟨(ad.add (k * 8)).block, (ad.add (k * 8)).off + 6, none⟩ = some (.int .i64 m.tm.qt) ∧ W'.cell? ⟨(ad.add (k * 8)).block, (ad.add (k * 8)).off + 7, none⟩ = some (.int .i64 m.tm.wi))
              ((refine KS.out _ ?_; repeat (first | (with_reducible assumption) | (with_reducible exact Below.refl _ _) | (with_reducible refine bk_drew ?_) | (with_reducible refine bk_alloc ?_ _))))
              (first
                | (go_at_call 81
                   (refine (CALL.out _ ?_).mono ?_
                    · (repeat (first | (with_reducible assumption) | (with_reducible exact Below.refl _ _) | (with_reducible refine bk_drew ?_) | (with_reducible refine bk_alloc ?_ _)))
                    rintro e v1 ⟨rfl, hv1⟩)))
            all_goals (go_wp2_with fail; go_split_ands; go_meet; exact ⟨rfl, Lib.hid (by assumption)⟩)
          case rest =>
            obtain ⟨rfl, hbx⟩ := hcut
            replace CB := Lib.hid (CB.out.next hbx.out)
            clear hbx KS CALL
            cases R
            · go_wp2
              go_ret
              exact ⟨by rw [okTo_false HAT.out hlt]; rfl, CB.out.bel⟩
            · go_wp2
              go_roundw
              case rel => exact ⟨k + 1, by omega, by go_num, by rw [S1.out]; simp, CB, Lib.hid (by rw [O1.out, HAT.out]; rfl)⟩
              case measure => simp [intOf]; omega
        · rw [hab] at RAK S1 HAT
          clear hab
          go_wp2_with fail
          refine RAK.out.mono ?_
          rintro e x ⟨rfl, hb⟩
          replace CB := Lib.hid (CB.out.next hb)
          clear hb g0 g1 g2 g3 g4 g5 g6 g7
          clear c0 c1 c2 c3 c4 c5
          go_wp2
          go_roundw
          case rel => exact ⟨k + 1, by omega, by go_num, by rw [S1.out]; simp, CB, Lib.hid (by rw [O1.out, HAT.out]; rfl)⟩
          case measure => simp [intOf]; omega
      · have hkn : k = c.tn := by omega
        subst hkn
        clear hlt hk
        have c0 := CB.out.kf.cellv 0 (v := .int .i64 c.a) rfl
        have c1 := CB.out.kf.cellv 1 (v := .int .i64 c.b) rfl
        have c2 := CB.out.kf.cellv 2 (v := .slice c.fA c.fn c.fc) rfl
        have c3 := CB.out.kf.cellv 3 (v := .slice c.sA c.sn c.sc) rfl
        have c4 := CB.out.kf.cellv 4 (v := .slice c.tA c.tn c.tc) rfl
        have c5 := CB.out.kf.cellv 5 (v := .int .u64 (c.st : Int)) rfl
        go_wp2
        clear c0 c1 c2 c3 c4 c5
        go_loopw [5] (fun i wr => ∃ k : Nat, k ≤ c.fn ∧ i = .int .i64 (k : Int) ∧ Hid (CBox w wr c) ∧ Hid ((c.cl.take k).all (belB c.cf.ts) = true))
          (fun i _ => c.fn - (intOf i).toNat)
        case atStart => exact ⟨0, Nat.zero_le _, rfl, CB, Lib.hid rfl⟩
        case round =>
          clear CB
          obtain ⟨k, hk, rfl, CB, hAL5⟩ := hrel
          have c0 := CB.out.kf.cellv 0 (v := .int .i64 c.a) rfl
          have c1 := CB.out.kf.cellv 1 (v := .int .i64 c.b) rfl
          have c2 := CB.out.kf.cellv 2 (v := .slice c.fA c.fn c.fc) rfl
          have c3 := CB.out.kf.cellv 3 (v := .slice c.sA c.sn c.sc) rfl
          have c4 := CB.out.kf.cellv 4 (v := .slice c.tA c.tn c.tc) rfl
          have c5 := CB.out.kf.cellv 5 (v := .int .u64 (c.st : Int)) rfl
          by_cases hlt : k < c.fn
          · obtain ⟨ad, x, hA, had, hx, hcx⟩ := cells_at CI.out.f hlt
            have HX := Lib.hid hx
            have HA := Lib.hid hA
            have GG : Hid (∀ W, Below w.heap.size w W → W.cell? (ad.add k) = some (.int .u8 (x.toNat : Int))) := Lib.hid fun W hb => (hb.cell (by rw [block_of_add]; exact had)).trans hcx
            have k0 : (0 : Int) ≤ (k : Int) := by omega
            have k1 : (k : Int) < (c.fn : Int) := by omega
            have CALL : Hid (∀ W (hb : Below wr.heap.size wr W), Calls Try.prog 124 #[.agg #[.int .i64 c.a, .int .i64 c.b, .slice (some ad) c.fn c.fc, .slice c.sA c.sn c.sc, .slice c.tA c.tn c.tc, .int .u64 (c.st : Int)], .int .u8 (x.toNat : Int)] W fun e w' => e = .returned (.bool (belB c.cf.ts x)) ∧ Below wr.heap.size wr w') := Lib.hid (fun W hb => by
              have := (BL.out x W (CB.out.bel.trans (hb.mono CB.out.bel.size))).mono (R' := fun e w' => e = .returned (.bool (belB c.cf.ts x)) ∧ Below wr.heap.size wr w') fun _ _ h => ⟨h.1, hb.trans (h.2.mono hb.size)⟩
              show Calls _ _ _ _ _
              rw [← hA]
              exact this)
            have KS : Hid (∀ W', Below wr.heap.size wr W' → Below wr.heap.size wr W' ∧ W'.cell? ⟨w.heap.size, 0, none⟩ = some (.int .i64 c.a) ∧ W'.cell? ⟨w.heap.size, 1, none⟩ = some (.int .i64 c.b) ∧ W'.cell? ⟨w.heap.size, 2, none⟩ = some (.slice (some ad) c.fn c.fc) ∧ W'.cell? ⟨w.heap.size, 3, none⟩ = some (.slice c.sA c.sn c.sc) ∧ W'.cell? ⟨w.heap.size, 4, none⟩ = some (.slice c.tA c.tn c.tc) ∧ W'.cell? ⟨w.heap.size, 5, none⟩ = some (.int .u64 (c.st : Int)) ∧ W'.cell? (ad.add k) = some (.int .u8 (x.toNat : Int))) :=
              Lib.hid (fun W' hb => ⟨hb, (CB.out.next hb).kf.cellv 0 rfl, (CB.out.next hb).kf.cellv 1 rfl, by rw [← HA.out]; exact (CB.out.next hb).kf.cellv 2 rfl, (CB.out.next hb).kf.cellv 3 rfl, (CB.out.next hb).kf.cellv 4 rfl, (CB.out.next hb).kf.cellv 5 rfl, GG.out W' (CB.out.next hb).bel⟩)
            rw [hA] at c2
            clear hx had hcx hA
            generalize hR : belB c.cf.ts x = R at CALL
            have HR := Lib.hid hR
            clear hR
            go_wp2
            clear c0 c1 c2 c3 c4 c5
            go_cut [56] (fun s wx => s = .bool (!R) ∧ Hid (Below wr.heap.size wr wx))
            case first =>
              go_region_held3 (fun W' => Below wr.heap.size wr W' ∧ W'.cell? ⟨w.heap.size, 0, none⟩ = some (.int .i64 c.a) ∧ W'.cell? ⟨w.heap.size, 1, none⟩ = some (.int .i64 c.b) ∧ W'.cell? ⟨w.heap.size, 2, none⟩ = some (.slice (some ad) c.fn c.fc) ∧ W'.cell? ⟨w.heap.size, 3, none⟩ = some (.slice c.sA c.sn c.sc) ∧ W'.cell? ⟨w.heap.size, 4, none⟩ = some (.slice c.tA c.tn c.tc) ∧ W'.cell? ⟨w.heap.size, 5, none⟩ = some (.int .u64 (c.st : Int)) ∧ W'.cell? (ad.add k) = some (.int .u8 (x.toNat : Int)))
                ((refine KS.out _ ?_; repeat (first | (with_reducible assumption) | (with_reducible exact Below.refl _ _) | (with_reducible refine bk_drew ?_) | (with_reducible refine bk_alloc ?_ _))))
                (first
                  | (go_at_call 124
                     (refine (CALL.out _ ?_).mono ?_
                      · (repeat (first | (with_reducible assumption) | (with_reducible exact Below.refl _ _) | (with_reducible refine bk_drew ?_) | (with_reducible refine bk_alloc ?_ _)))
                      rintro e v1 ⟨rfl, hv1⟩)))
              all_goals (go_wp2_with fail; go_split_ands; go_meet; exact ⟨rfl, Lib.hid (by assumption)⟩)
            case rest =>
              obtain ⟨rfl, hbx⟩ := hcut
              replace CB := Lib.hid (CB.out.next hbx.out)
              clear hbx KS CALL
              cases R
              · have hf : c.cl.all (belB c.cf.ts) = false := List.all_eq_false.2 ⟨x, List.mem_of_getElem? HX.out, by rw [HR.out]; simp⟩
                have HF := Lib.hid hf
                clear hf
                go_wp2
                go_ret
                exact ⟨by rw [hOK.out, HF.out]; rfl, CB.out.bel⟩
              · go_wp2
                go_roundw
                case rel => exact ⟨k + 1, by omega, by go_num, CB, Lib.hid (all_take_snoc HX.out hAL5.out HR.out)⟩
                case measure => simp [intOf]; omega
          · have hkn : k = c.fn := by omega
            subst hkn
            have hfin : c.cl.all (belB c.cf.ts) = true := by have := hAL5.out; rwa [List.take_of_length_le (by rw [HC.out]; exact Nat.le_refl _)] at this
            have HFIN5 := Lib.hid hfin
            clear hfin hlt hk
            go_wp2
            clear c0 c1 c2 c3 c4 c5
            go_loopw [6] (fun i wr => ∃ k : Nat, k ≤ c.sn ∧ i = .int .i64 (k : Int) ∧ Hid (CBox w wr c) ∧ Hid ((c.sl.take k).all (belB c.cf.ts) = true))
              (fun i _ => c.sn - (intOf i).toNat)
            case atStart => exact ⟨0, Nat.zero_le _, rfl, CB, Lib.hid rfl⟩
            case round =>
              clear CB
              obtain ⟨k, hk, rfl, CB, hAL6⟩ := hrel
              have c0 := CB.out.kf.cellv 0 (v := .int .i64 c.a) rfl
              have c1 := CB.out.kf.cellv 1 (v := .int .i64 c.b) rfl
              have c2 := CB.out.kf.cellv 2 (v := .slice c.fA c.fn c.fc) rfl
              have c3 := CB.out.kf.cellv 3 (v := .slice c.sA c.sn c.sc) rfl
              have c4 := CB.out.kf.cellv 4 (v := .slice c.tA c.tn c.tc) rfl
              have c5 := CB.out.kf.cellv 5 (v := .int .u64 (c.st : Int)) rfl
              by_cases hlt : k < c.sn
              · obtain ⟨ad, x, hA, had, hx, hcx⟩ := cells_at CI.out.s hlt
                have HX := Lib.hid hx
                have HA := Lib.hid hA
                have GG : Hid (∀ W, Below w.heap.size w W → W.cell? (ad.add k) = some (.int .u8 (x.toNat : Int))) := Lib.hid fun W hb => (hb.cell (by rw [block_of_add]; exact had)).trans hcx
                have k0 : (0 : Int) ≤ (k : Int) := by omega
                have k1 : (k : Int) < (c.sn : Int) := by omega
                have CALL : Hid (∀ W (hb : Below wr.heap.size wr W), Calls Try.prog 124 #[.agg #[.int .i64 c.a, .int .i64 c.b, .slice c.fA c.fn c.fc, .slice (some ad) c.sn c.sc, .slice c.tA c.tn c.tc, .int .u64 (c.st : Int)], .int .u8 (x.toNat : Int)] W fun e w' => e = .returned (.bool (belB c.cf.ts x)) ∧ Below wr.heap.size wr w') := Lib.hid (fun W hb => by
                  have := (BL.out x W (CB.out.bel.trans (hb.mono CB.out.bel.size))).mono (R' := fun e w' => e = .returned (.bool (belB c.cf.ts x)) ∧ Below wr.heap.size wr w') fun _ _ h => ⟨h.1, hb.trans (h.2.mono hb.size)⟩
                  show Calls _ _ _ _ _
                  rw [← hA]
                  exact this)
                have KS : Hid (∀ W', Below wr.heap.size wr W' → Below wr.heap.size wr W' ∧ W'.cell? ⟨w.heap.size, 0, none⟩ = some (.int .i64 c.a) ∧ W'.cell? ⟨w.heap.size, 1, none⟩ = some (.int .i64 c.b) ∧ W'.cell? ⟨w.heap.size, 2, none⟩ = some (.slice c.fA c.fn c.fc) ∧ W'.cell? ⟨w.heap.size, 3, none⟩ = some (.slice (some ad) c.sn c.sc) ∧ W'.cell? ⟨w.heap.size, 4, none⟩ = some (.slice c.tA c.tn c.tc) ∧ W'.cell? ⟨w.heap.size, 5, none⟩ = some (.int .u64 (c.st : Int)) ∧ W'.cell? (ad.add k) = some (.int .u8 (x.toNat : Int))) :=
                  Lib.hid (fun W' hb => ⟨hb, (CB.out.next hb).kf.cellv 0 rfl, (CB.out.next hb).kf.cellv 1 rfl, (CB.out.next hb).kf.cellv 2 rfl, by rw [← HA.out]; exact (CB.out.next hb).kf.cellv 3 rfl, (CB.out.next hb).kf.cellv 4 rfl, (CB.out.next hb).kf.cellv 5 rfl, GG.out W' (CB.out.next hb).bel⟩)
                rw [hA] at c3
                clear hx had hcx hA
                generalize hR : belB c.cf.ts x = R at CALL
                have HR := Lib.hid hR
                clear hR
                go_wp2
                clear c0 c1 c2 c3 c4 c5
                go_cut [71] (fun s wx => s = .bool (!R) ∧ Hid (Below wr.heap.size wr wx))
                case first =>
                  go_region_held3 (fun W' => Below wr.heap.size wr W' ∧ W'.cell? ⟨w.heap.size, 0, none⟩ = some (.int .i64 c.a) ∧ W'.cell? ⟨w.heap.size, 1, none⟩ = some (.int .i64 c.b) ∧ W'.cell? ⟨w.heap.size, 2, none⟩ = some (.slice c.fA c.fn c.fc) ∧ W'.cell? ⟨w.heap.size, 3, none⟩ = some (.slice (some ad) c.sn c.sc) ∧ W'.cell? ⟨w.heap.size, 4, none⟩ = some (.slice c.tA c.tn c.tc) ∧ W'.cell? ⟨w.heap.size, 5, none⟩ = some (.int .u64 (c.st : Int)) ∧ W'.cell? (ad.add k) = some (.int .u8 (x.toNat : Int)))
                    ((refine KS.out _ ?_; repeat (first | (with_reducible assumption) | (with_reducible exact Below.refl _ _) | (with_reducible refine bk_drew ?_) | (with_reducible refine bk_alloc ?_ _))))
                    (first
                      | (go_at_call 124
                         (refine (CALL.out _ ?_).mono ?_
                          · (repeat (first | (with_reducible assumption) | (with_reducible exact Below.refl _ _) | (with_reducible refine bk_drew ?_) | (with_reducible refine bk_alloc ?_ _)))
                          rintro e v1 ⟨rfl, hv1⟩)))
                  all_goals (go_wp2_with fail; go_split_ands; go_meet; exact ⟨rfl, Lib.hid (by assumption)⟩)
                case rest =>
                  obtain ⟨rfl, hbx⟩ := hcut
                  replace CB := Lib.hid (CB.out.next hbx.out)
                  clear hbx KS CALL
                  cases R
                  · have hf : c.sl.all (belB c.cf.ts) = false := List.all_eq_false.2 ⟨x, List.mem_of_getElem? HX.out, by rw [HR.out]; simp⟩
                    have HF := Lib.hid hf
                    clear hf
                    go_wp2
                    go_ret
                    exact ⟨by rw [hOK.out, HFIN5.out, HF.out]; rfl, CB.out.bel⟩
                  · go_wp2
                    go_roundw
                    case rel => exact ⟨k + 1, by omega, by go_num, CB, Lib.hid (all_take_snoc HX.out hAL6.out HR.out)⟩
                    case measure => simp [intOf]; omega
              · have hkn : k = c.sn := by omega
                subst hkn
                have hfin : c.sl.all (belB c.cf.ts) = true := by have := hAL6.out; rwa [List.take_of_length_le (by rw [HS.out]; exact Nat.le_refl _)] at this
                have HFIN6 := Lib.hid hfin
                clear hfin hlt hk
                go_wp2
                clear c0 c1 c2 c3 c4 c5
                go_ret
                exact ⟨by rw [hOK.out, HFIN5.out, HFIN6.out]; rfl, CB.out.bel⟩
theorem slicesB_ten {l : List UInt8} (h : slicesB l = true) : l.all tenB = true := by
  unfold slicesB at h
  rw [Bool.and_eq_true] at h
  exact h.2
set_option maxHeartbeats 3200000 in
theorem refCheck3_any (c : Cm) (w : World) (hc : c.In w w.heap.size) :
    Calls Try.prog 40 #[c.val] w fun e w' => e = .returned (.int .i64 c.cf.chk) ∧ Below w.heap.size w w' := by
  have CB := Lib.hid (cbox w c)
  have f1 := hc.f1; have s1 := hc.s1
  have V1 := Lib.hid (fun W (hb : Below w.heap.size w W) => validFloor_any c.a c.b c.fA c.fn c.fc c.cl W ((hc.f.below hb).more hb.size) (by omega))
  have V2 := Lib.hid (fun W (hb : Below w.heap.size w W) => (validSlices_any c.sA c.sn c.sc c.sl W ((hc.s.below hb).more hb.size) (by omega)).mono (R' := fun e w' => e = .returned (.bool (slicesB c.sl)) ∧ Below W.heap.size W w') fun _ _ h => ⟨h.1, h.2 ▸ Below.refl _ _⟩)
  have E : Hid (c.cf.chk = if floorB c.a c.b c.cl then (if slicesB c.sl then (if validTeamsB c.cl c.sl c.cf.ts then (if c.st > 4611686018427387904 then 2 else 0) else 70) else 60) else 50) := Lib.hid rfl
  generalize c.cf.chk = RR at E ⊢
  cases hv : floorB c.a c.b c.cl
  · rw [hv] at V1 E
    simp only [Bool.false_eq_true, if_false] at E
    clear hv hc V2
    go_enter Try.func40, Try.ntmps40
    go_upto_region 1 with fail
    generalize World.alloc _ _ = X at CB ⊢
    have c0 := CB.out.kf.cellv 0 (v := .int .i64 c.a) rfl
    have c1 := CB.out.kf.cellv 1 (v := .int .i64 c.b) rfl
    have c2 := CB.out.kf.cellv 2 (v := .slice c.fA c.fn c.fc) rfl
    have c3 := CB.out.kf.cellv 3 (v := .slice c.sA c.sn c.sc) rfl
    have c4 := CB.out.kf.cellv 4 (v := .slice c.tA c.tn c.tc) rfl
    have c5 := CB.out.kf.cellv 5 (v := .int .u64 (c.st : Int)) rfl
    go_wp2_with fail
    refine (V1.out _ CB.out.bel).mono ?_
    rintro e x ⟨rfl, hb⟩
    replace CB := Lib.hid (CB.out.next hb)
    clear hb
    clear c0 c1 c2 c3 c4 c5
    have c0 := CB.out.kf.cellv 0 (v := .int .i64 c.a) rfl
    have c1 := CB.out.kf.cellv 1 (v := .int .i64 c.b) rfl
    have c2 := CB.out.kf.cellv 2 (v := .slice c.fA c.fn c.fc) rfl
    have c3 := CB.out.kf.cellv 3 (v := .slice c.sA c.sn c.sc) rfl
    have c4 := CB.out.kf.cellv 4 (v := .slice c.tA c.tn c.tc) rfl
    have c5 := CB.out.kf.cellv 5 (v := .int .u64 (c.st : Int)) rfl
    go_wp2
    go_ret
    exact ⟨by rw [E.out]; rfl, CB.out.bel⟩
  · rw [hv] at V1 E
    simp only [if_true] at E
    cases hs : slicesB c.sl
    · rw [hs] at V2 E
      simp only [Bool.false_eq_true, if_false] at E
      clear hv hc hs
      go_enter Try.func40, Try.ntmps40
      go_upto_region 1 with fail
      generalize World.alloc _ _ = X at CB ⊢
      have c0 := CB.out.kf.cellv 0 (v := .int .i64 c.a) rfl
      have c1 := CB.out.kf.cellv 1 (v := .int .i64 c.b) rfl
      have c2 := CB.out.kf.cellv 2 (v := .slice c.fA c.fn c.fc) rfl
      have c3 := CB.out.kf.cellv 3 (v := .slice c.sA c.sn c.sc) rfl
      have c4 := CB.out.kf.cellv 4 (v := .slice c.tA c.tn c.tc) rfl
      have c5 := CB.out.kf.cellv 5 (v := .int .u64 (c.st : Int)) rfl
      go_wp2_with fail
      refine (V1.out _ CB.out.bel).mono ?_
      rintro e x ⟨rfl, hb⟩
      replace CB := Lib.hid (CB.out.next hb)
      clear hb
      clear c0 c1 c2 c3 c4 c5
      have c0 := CB.out.kf.cellv 0 (v := .int .i64 c.a) rfl
      have c1 := CB.out.kf.cellv 1 (v := .int .i64 c.b) rfl
      have c2 := CB.out.kf.cellv 2 (v := .slice c.fA c.fn c.fc) rfl
      have c3 := CB.out.kf.cellv 3 (v := .slice c.sA c.sn c.sc) rfl
      have c4 := CB.out.kf.cellv 4 (v := .slice c.tA c.tn c.tc) rfl
      have c5 := CB.out.kf.cellv 5 (v := .int .u64 (c.st : Int)) rfl
      go_wp2_with fail
      refine (V2.out _ CB.out.bel).mono ?_
      rintro e x ⟨rfl, hb⟩
      replace CB := Lib.hid (CB.out.next hb)
      clear hb
      clear c0 c1 c2 c3 c4 c5
      have c0 := CB.out.kf.cellv 0 (v := .int .i64 c.a) rfl
      have c1 := CB.out.kf.cellv 1 (v := .int .i64 c.b) rfl
      have c2 := CB.out.kf.cellv 2 (v := .slice c.fA c.fn c.fc) rfl
      have c3 := CB.out.kf.cellv 3 (v := .slice c.sA c.sn c.sc) rfl
      have c4 := CB.out.kf.cellv 4 (v := .slice c.tA c.tn c.tc) rfl
      have c5 := CB.out.kf.cellv 5 (v := .int .u64 (c.st : Int)) rfl
      go_wp2
      go_ret
      exact ⟨by rw [E.out]; rfl, CB.out.bel⟩
    · rw [hs] at V2 E
      simp only [if_true] at E
      have V3 := Lib.hid (fun W (hb : Below w.heap.size w W) => refTeams_any c W (hc.go hb) hv)
      rw [teams_eq (floorB_yes hv).2.2 (slicesB_ten hs)] at V3
      generalize validTeamsB c.cl c.sl c.cf.ts = R at V3 E
      clear hv hs hc
      cases R
      · go_enter Try.func40, Try.ntmps40
        go_upto_region 1 with fail
        generalize World.alloc _ _ = X at CB ⊢
        have c0 := CB.out.kf.cellv 0 (v := .int .i64 c.a) rfl
        have c1 := CB.out.kf.cellv 1 (v := .int .i64 c.b) rfl
        have c2 := CB.out.kf.cellv 2 (v := .slice c.fA c.fn c.fc) rfl
        have c3 := CB.out.kf.cellv 3 (v := .slice c.sA c.sn c.sc) rfl
        have c4 := CB.out.kf.cellv 4 (v := .slice c.tA c.tn c.tc) rfl
        have c5 := CB.out.kf.cellv 5 (v := .int .u64 (c.st : Int)) rfl
        go_wp2_with fail
        refine (V1.out _ CB.out.bel).mono ?_
        rintro e x ⟨rfl, hb⟩
        replace CB := Lib.hid (CB.out.next hb)
        clear hb
        clear c0 c1 c2 c3 c4 c5
        have c0 := CB.out.kf.cellv 0 (v := .int .i64 c.a) rfl
        have c1 := CB.out.kf.cellv 1 (v := .int .i64 c.b) rfl
        have c2 := CB.out.kf.cellv 2 (v := .slice c.fA c.fn c.fc) rfl
        have c3 := CB.out.kf.cellv 3 (v := .slice c.sA c.sn c.sc) rfl
        have c4 := CB.out.kf.cellv 4 (v := .slice c.tA c.tn c.tc) rfl
        have c5 := CB.out.kf.cellv 5 (v := .int .u64 (c.st : Int)) rfl
        go_wp2_with fail
        refine (V2.out _ CB.out.bel).mono ?_
        rintro e x ⟨rfl, hb⟩
        replace CB := Lib.hid (CB.out.next hb)
        clear hb
        clear c0 c1 c2 c3 c4 c5
        have c0 := CB.out.kf.cellv 0 (v := .int .i64 c.a) rfl
        have c1 := CB.out.kf.cellv 1 (v := .int .i64 c.b) rfl
        have c2 := CB.out.kf.cellv 2 (v := .slice c.fA c.fn c.fc) rfl
        have c3 := CB.out.kf.cellv 3 (v := .slice c.sA c.sn c.sc) rfl
        have c4 := CB.out.kf.cellv 4 (v := .slice c.tA c.tn c.tc) rfl
        have c5 := CB.out.kf.cellv 5 (v := .int .u64 (c.st : Int)) rfl
        go_wp2_with fail
        refine (V3.out _ CB.out.bel).mono ?_
        rintro e x ⟨rfl, hb⟩
        replace CB := Lib.hid (CB.out.next hb)
        clear hb
        clear c0 c1 c2 c3 c4 c5
        have c0 := CB.out.kf.cellv 0 (v := .int .i64 c.a) rfl
        have c1 := CB.out.kf.cellv 1 (v := .int .i64 c.b) rfl
        have c2 := CB.out.kf.cellv 2 (v := .slice c.fA c.fn c.fc) rfl
        have c3 := CB.out.kf.cellv 3 (v := .slice c.sA c.sn c.sc) rfl
        have c4 := CB.out.kf.cellv 4 (v := .slice c.tA c.tn c.tc) rfl
        have c5 := CB.out.kf.cellv 5 (v := .int .u64 (c.st : Int)) rfl
        go_wp2
        go_ret
        exact ⟨by rw [E.out]; rfl, CB.out.bel⟩
      · simp only [if_true] at E
        by_cases h9 : c.st > 4611686018427387904
        · rw [if_pos h9] at E
          have d1 : decide ((c.st : Int) > 4611686018427387904) = true := by simp; omega
          clear h9
          go_enter Try.func40, Try.ntmps40
          go_upto_region 1 with fail
          generalize World.alloc _ _ = X at CB ⊢
          have c0 := CB.out.kf.cellv 0 (v := .int .i64 c.a) rfl
          have c1 := CB.out.kf.cellv 1 (v := .int .i64 c.b) rfl
          have c2 := CB.out.kf.cellv 2 (v := .slice c.fA c.fn c.fc) rfl
          have c3 := CB.out.kf.cellv 3 (v := .slice c.sA c.sn c.sc) rfl
          have c4 := CB.out.kf.cellv 4 (v := .slice c.tA c.tn c.tc) rfl
          have c5 := CB.out.kf.cellv 5 (v := .int .u64 (c.st : Int)) rfl
          go_wp2_with fail
          refine (V1.out _ CB.out.bel).mono ?_
          rintro e x ⟨rfl, hb⟩
          replace CB := Lib.hid (CB.out.next hb)
          clear hb
          clear c0 c1 c2 c3 c4 c5
          have c0 := CB.out.kf.cellv 0 (v := .int .i64 c.a) rfl
          have c1 := CB.out.kf.cellv 1 (v := .int .i64 c.b) rfl
          have c2 := CB.out.kf.cellv 2 (v := .slice c.fA c.fn c.fc) rfl
          have c3 := CB.out.kf.cellv 3 (v := .slice c.sA c.sn c.sc) rfl
          have c4 := CB.out.kf.cellv 4 (v := .slice c.tA c.tn c.tc) rfl
          have c5 := CB.out.kf.cellv 5 (v := .int .u64 (c.st : Int)) rfl
          go_wp2_with fail
          refine (V2.out _ CB.out.bel).mono ?_
          rintro e x ⟨rfl, hb⟩
          replace CB := Lib.hid (CB.out.next hb)
          clear hb
          clear c0 c1 c2 c3 c4 c5
          have c0 := CB.out.kf.cellv 0 (v := .int .i64 c.a) rfl
          have c1 := CB.out.kf.cellv 1 (v := .int .i64 c.b) rfl
          have c2 := CB.out.kf.cellv 2 (v := .slice c.fA c.fn c.fc) rfl
          have c3 := CB.out.kf.cellv 3 (v := .slice c.sA c.sn c.sc) rfl
          have c4 := CB.out.kf.cellv 4 (v := .slice c.tA c.tn c.tc) rfl
          have c5 := CB.out.kf.cellv 5 (v := .int .u64 (c.st : Int)) rfl
          go_wp2_with fail
          refine (V3.out _ CB.out.bel).mono ?_
          rintro e x ⟨rfl, hb⟩
          replace CB := Lib.hid (CB.out.next hb)
          clear hb
          clear c0 c1 c2 c3 c4 c5
          have c0 := CB.out.kf.cellv 0 (v := .int .i64 c.a) rfl
          have c1 := CB.out.kf.cellv 1 (v := .int .i64 c.b) rfl
          have c2 := CB.out.kf.cellv 2 (v := .slice c.fA c.fn c.fc) rfl
          have c3 := CB.out.kf.cellv 3 (v := .slice c.sA c.sn c.sc) rfl
          have c4 := CB.out.kf.cellv 4 (v := .slice c.tA c.tn c.tc) rfl
          have c5 := CB.out.kf.cellv 5 (v := .int .u64 (c.st : Int)) rfl
          go_wp2
          go_ret
          exact ⟨by rw [E.out]; rfl, CB.out.bel⟩
        · rw [if_neg h9] at E
          have d1 : decide ((c.st : Int) > 4611686018427387904) = false := by simp; omega
          clear h9
          go_enter Try.func40, Try.ntmps40
          go_upto_region 1 with fail
          generalize World.alloc _ _ = X at CB ⊢
          have c0 := CB.out.kf.cellv 0 (v := .int .i64 c.a) rfl
          have c1 := CB.out.kf.cellv 1 (v := .int .i64 c.b) rfl
          have c2 := CB.out.kf.cellv 2 (v := .slice c.fA c.fn c.fc) rfl
          have c3 := CB.out.kf.cellv 3 (v := .slice c.sA c.sn c.sc) rfl
          have c4 := CB.out.kf.cellv 4 (v := .slice c.tA c.tn c.tc) rfl
          have c5 := CB.out.kf.cellv 5 (v := .int .u64 (c.st : Int)) rfl
          go_wp2_with fail
          refine (V1.out _ CB.out.bel).mono ?_
          rintro e x ⟨rfl, hb⟩
          replace CB := Lib.hid (CB.out.next hb)
          clear hb
          clear c0 c1 c2 c3 c4 c5
          have c0 := CB.out.kf.cellv 0 (v := .int .i64 c.a) rfl
          have c1 := CB.out.kf.cellv 1 (v := .int .i64 c.b) rfl
          have c2 := CB.out.kf.cellv 2 (v := .slice c.fA c.fn c.fc) rfl
          have c3 := CB.out.kf.cellv 3 (v := .slice c.sA c.sn c.sc) rfl
          have c4 := CB.out.kf.cellv 4 (v := .slice c.tA c.tn c.tc) rfl
          have c5 := CB.out.kf.cellv 5 (v := .int .u64 (c.st : Int)) rfl
          go_wp2_with fail
          refine (V2.out _ CB.out.bel).mono ?_
          rintro e x ⟨rfl, hb⟩
          replace CB := Lib.hid (CB.out.next hb)
          clear hb
          clear c0 c1 c2 c3 c4 c5
          have c0 := CB.out.kf.cellv 0 (v := .int .i64 c.a) rfl
          have c1 := CB.out.kf.cellv 1 (v := .int .i64 c.b) rfl
          have c2 := CB.out.kf.cellv 2 (v := .slice c.fA c.fn c.fc) rfl
          have c3 := CB.out.kf.cellv 3 (v := .slice c.sA c.sn c.sc) rfl
          have c4 := CB.out.kf.cellv 4 (v := .slice c.tA c.tn c.tc) rfl
          have c5 := CB.out.kf.cellv 5 (v := .int .u64 (c.st : Int)) rfl
          go_wp2_with fail
          refine (V3.out _ CB.out.bel).mono ?_
          rintro e x ⟨rfl, hb⟩
          replace CB := Lib.hid (CB.out.next hb)
          clear hb
          clear c0 c1 c2 c3 c4 c5
          have c0 := CB.out.kf.cellv 0 (v := .int .i64 c.a) rfl
          have c1 := CB.out.kf.cellv 1 (v := .int .i64 c.b) rfl
          have c2 := CB.out.kf.cellv 2 (v := .slice c.fA c.fn c.fc) rfl
          have c3 := CB.out.kf.cellv 3 (v := .slice c.sA c.sn c.sc) rfl
          have c4 := CB.out.kf.cellv 4 (v := .slice c.tA c.tn c.tc) rfl
          have c5 := CB.out.kf.cellv 5 (v := .int .u64 (c.st : Int)) rfl
          go_wp2
          go_ret
          exact ⟨by rw [E.out]; rfl, CB.out.bel⟩
end Go.Proofs.Ytcbghchciplfcaa
