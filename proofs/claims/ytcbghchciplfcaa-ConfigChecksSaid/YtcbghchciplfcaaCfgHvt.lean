/-
  CFGHVT: hasValidTeams, config.Check.
-/
import Derived.Test.YtcbghchciplfcaaCfgOwns
namespace Go.Proofs.Ytcbghchciplfcaa
set_option linter.unusedVariables false
set_option linter.unusedSimpArgs false
set_option maxRecDepth 100000
open Go.RowKit

/-- the k-th team is absent or valid. -/
def okAt (cl : List UInt8) (ts : List Team) (k : Nat) : Bool := match ts[k]? with | some m => m.absB || m.validB cl (k : Int) | none => true
def okTo (cl : List UInt8) (ts : List Team) : Nat → Bool
  | 0 => true
  | k + 1 => okTo cl ts k && okAt cl ts k
theorem okTo_false {cl : List UInt8} {ts : List Team} {j : Nat} (h : okAt cl ts j = false) : ∀ {k : Nat}, j < k → okTo cl ts k = false
  | 0, hk => by omega
  | k + 1, hk => by
    unfold okTo
    rcases Nat.lt_or_ge j k with h1 | h1
    · rw [okTo_false h h1]; rfl
    · obtain rfl : j = k := by omega
      rw [h]; simp
def heldTo (cl sl : List UInt8) (ts : List Team) : Nat → Bool
  | 0 => true
  | k + 1 => heldTo cl sl ts k && (presB ts (k : Int) || ownsB cl sl (k : Int))
theorem heldTo_false {cl sl : List UInt8} {ts : List Team} {j : Nat} (h1 : presB ts (j : Int) = false) (h2 : ownsB cl sl (j : Int) = false) : ∀ {k : Nat}, j < k → heldTo cl sl ts k = false
  | 0, hk => by omega
  | k + 1, hk => by
    unfold heldTo
    rcases Nat.lt_or_ge j k with h3 | h3
    · rw [heldTo_false h1 h2 h3]; rfl
    · obtain rfl : j = k := by omega
      rw [h1, h2]; simp
def someTo (ts : List Team) : Nat → Bool
  | 0 => false
  | k + 1 => someTo ts k || presB ts (k : Int)
def validTeamsB (cl sl : List UInt8) (ts : List Team) : Bool := btw 3 ts.length && okTo cl ts ts.length && heldTo cl sl ts 3 && someTo ts 3
set_option maxHeartbeats 3200000 in
theorem hasValidTeams_any (c : Cm) (w : World) (hc : c.In w w.heap.size) (hv : floorB c.a c.b c.cl = true) (hs : slicesB c.sl = true) :
    Calls Try.prog 71 #[c.val] w fun e w' => e = .returned (.bool (validTeamsB c.cl c.sl c.cf.ts)) ∧ Below w.heap.size w w' := by
  have CB := Lib.hid (cbox w c)
  have hl2 : c.cf.ts.length = c.tn := by rw [← hc.len]; simp [Cm.cf]
  have f1 := hc.f1
  have E : Hid (validTeamsB c.cl c.sl c.cf.ts = (btw 3 (c.tn : Int) && okTo c.cl c.cf.ts c.tn && heldTo c.cl c.sl c.cf.ts 3 && someTo c.cf.ts 3)) := Lib.hid (by unfold validTeamsB; rw [hl2])
  have CT := Lib.hid (fun (t : Int) (m : Tm) W (hb : Below w.heap.size w W) (hm : m.In W W.heap.size) => checkTeam_any c.a c.b c.fA c.fn c.fc c.cl t m W ((hc.f.below hb).more hb.size) (by omega) hm)
  have IP := Lib.hid (fun (t : Int) W (hb : Below w.heap.size w W) => isPresent_any c t W (hc.go hb))
  have ON := Lib.hid (fun (t : Int) (ht : 0 ≤ t ∧ t < 3) W (hb : Below w.heap.size w W) => ownsNothing_any c t W (hc.go hb) hv hs ht)
  have CS : Hid (∀ (t : Int) (m : Team), 0 ≤ t ∧ t < 3 → checkTeamS c.a c.b c.cl t m = if m.absB || m.validB c.cl t then 0 else 70) := Lib.hid (fun t m ht => by unfold checkTeamS; rw [if_pos hv, if_pos ht])
  have CI := Lib.hid hc
  have HL := Lib.hid hl2
  have V1 := Lib.hid (fun W => within1 3 (c.tn : Int) W)
  rw [E.out]
  clear hc hv hs hl2 E f1
  cases hb3 : btw 3 (c.tn : Int)
  · rw [hb3] at V1
    clear hb3
    go_enter Try.func71, Try.ntmps71
    go_upto_region 1 with fail
    generalize World.alloc _ _ = X at CB ⊢
    have c0 := CB.out.kf.cellv 0 (v := .int .i64 c.a) rfl
    have c1 := CB.out.kf.cellv 1 (v := .int .i64 c.b) rfl
    have c2 := CB.out.kf.cellv 2 (v := .slice c.fA c.fn c.fc) rfl
    have c3 := CB.out.kf.cellv 3 (v := .slice c.sA c.sn c.sc) rfl
    have c4 := CB.out.kf.cellv 4 (v := .slice c.tA c.tn c.tc) rfl
    have c5 := CB.out.kf.cellv 5 (v := .int .u64 (c.st : Int)) rfl
    go_wp2_with fail
    refine (V1.out _).mono ?_
    rintro e x ⟨rfl, hb⟩
    replace CB := Lib.hid (CB.out.next hb)
    clear hb
    clear c0 c1 c2 c3 c4 c5
    go_wp2
    go_ret
    exact ⟨rfl, CB.out.bel⟩
  · rw [hb3] at V1
    have hn3 : 1 ≤ c.tn ∧ c.tn ≤ 3 := by unfold btw at hb3; simp at hb3; omega
    rw [Bool.true_and]
    clear hb3
    go_enter Try.func71, Try.ntmps71
    go_upto_region 1 with fail
    generalize World.alloc _ _ = X at CB ⊢
    have c0 := CB.out.kf.cellv 0 (v := .int .i64 c.a) rfl
    have c1 := CB.out.kf.cellv 1 (v := .int .i64 c.b) rfl
    have c2 := CB.out.kf.cellv 2 (v := .slice c.fA c.fn c.fc) rfl
    have c3 := CB.out.kf.cellv 3 (v := .slice c.sA c.sn c.sc) rfl
    have c4 := CB.out.kf.cellv 4 (v := .slice c.tA c.tn c.tc) rfl
    have c5 := CB.out.kf.cellv 5 (v := .int .u64 (c.st : Int)) rfl
    go_wp2_with fail
    refine (V1.out _).mono ?_
    rintro e x ⟨rfl, hb⟩
    replace CB := Lib.hid (CB.out.next hb)
    clear hb
    clear c0 c1 c2 c3 c4 c5
    have c0 := CB.out.kf.cellv 0 (v := .int .i64 c.a) rfl
    have c1 := CB.out.kf.cellv 1 (v := .int .i64 c.b) rfl
    have c2 := CB.out.kf.cellv 2 (v := .slice c.fA c.fn c.fc) rfl
    have c3 := CB.out.kf.cellv 3 (v := .slice c.sA c.sn c.sc) rfl
    have c4 := CB.out.kf.cellv 4 (v := .slice c.tA c.tn c.tc) rfl
    have c5 := CB.out.kf.cellv 5 (v := .int .u64 (c.st : Int)) rfl
    go_wp2
    clear c0 c1 c2 c3 c4 c5
    go_loopw [17] (fun i wr => ∃ k : Nat, k ≤ c.tn ∧ i = .int .i64 (k : Int) ∧ Hid (CBox w wr c) ∧ Hid (okTo c.cl c.cf.ts k = true))
      (fun i _ => c.tn - (intOf i).toNat)
    case atStart => exact ⟨0, Nat.zero_le _, rfl, CB, Lib.hid rfl⟩
    case round =>
      clear CB
      obtain ⟨k, hk, rfl, CB, hOK⟩ := hrel
      have c0 := CB.out.kf.cellv 0 (v := .int .i64 c.a) rfl
      have c1 := CB.out.kf.cellv 1 (v := .int .i64 c.b) rfl
      have c2 := CB.out.kf.cellv 2 (v := .slice c.fA c.fn c.fc) rfl
      have c3 := CB.out.kf.cellv 3 (v := .slice c.sA c.sn c.sc) rfl
      have c4 := CB.out.kf.cellv 4 (v := .slice c.tA c.tn c.tc) rfl
      have c5 := CB.out.kf.cellv 5 (v := .int .u64 (c.st : Int)) rfl
      by_cases hlt : k < c.tn
      · obtain ⟨ad, m, hA, had, hx, hct⟩ := teams_at (CI.out.go CB.out.bel).t hlt
        have HT := Lib.hid ((CI.out.go CB.out.bel).ts m (List.mem_of_getElem? hx))
        have HX := Lib.hid hx
        rw [hA]
        obtain ⟨g0, g1, g2, g3, g4, g5, g6, g7⟩ := team_spelled (p := ad.add (k * 8)) (fun j v hv => by rw [add_of_add]; exact hct j v hv)
        clear hx hct hA
        have k0 : (0 : Int) ≤ (k : Int) := by omega
        have k1 : (k : Int) < (c.tn : Int) := by omega
        clear had
        go_upto_region 6 with fail
        clear g0 g1 g2 g3 g4 g5 g6 g7
        clear c0 c1 c2 c3 c4 c5
        have hval := CS.out (k : Int) m.tm ⟨by omega, by omega⟩
        have hat : okAt c.cl c.cf.ts k = (m.tm.absB || m.tm.validB c.cl (k : Int)) := by
          unfold okAt
          rw [show c.cf.ts[k]? = some m.tm from by show (c.ts.map (·.tm))[k]? = _; rw [List.getElem?_map, HX.out]; rfl]
        have CALL := Lib.hid (fun W (hb : Below wr.heap.size wr W) => CT.out (k : Int) m W (CB.out.bel.trans (hb.mono CB.out.bel.size)) (HT.out.go hb))
        rw [hval, ← hat] at CALL
        have HB1 : Hid (Below wr.heap.size wr (wr.alloc (.cells m.arr 24))) := Lib.hid (bk_alloc (Below.refl _ _) _)
        have KT := Lib.hid (Blk.new wr 24 m.arr)
        have CB1 := Lib.hid (CB.out.next HB1.out)
        clear hval hat
        generalize wr.alloc _ = Y at HB1 KT CB1 ⊢
        generalize wr.heap.size = g at KT ⊢
        have t0 := KT.out.cellv 0 (v := .slice m.hA m.hn m.hc) rfl
        have t1 := KT.out.cellv 1 (v := .slice m.pA m.pn m.pc) rfl
        have t2 := KT.out.cellv 2 (v := .slice m.dA m.dn m.dc) rfl
        have t3 := KT.out.cellv 3 (v := .int .i64 m.tm.lo) rfl
        have t4 := KT.out.cellv 4 (v := .int .i64 m.tm.un) rfl
        have t5 := KT.out.cellv 5 (v := .int .i64 m.tm.qu) rfl
        have t6 := KT.out.cellv 6 (v := .int .i64 m.tm.qt) rfl
        have t7 := KT.out.cellv 7 (v := .int .i64 m.tm.wi) rfl
        have c0 := CB1.out.kf.cellv 0 (v := .int .i64 c.a) rfl
        have c1 := CB1.out.kf.cellv 1 (v := .int .i64 c.b) rfl
        have c2 := CB1.out.kf.cellv 2 (v := .slice c.fA c.fn c.fc) rfl
        cases hok : okAt c.cl c.cf.ts k
        · rw [hok] at CALL
          have HOK := Lib.hid hok
          clear hok
          go_wp2_with fail
          refine (CALL.out _ HB1.out).mono ?_
          rintro e x ⟨rfl, hb⟩
          have HB2 := Lib.hid ((CB1.out.next hb).bel)
          clear hb t0 t1 t2 t3 t4 t5 t6 t7 c0 c1 c2
          go_wp2
          go_ret
          exact ⟨by rw [okTo_false HOK.out hlt]; rfl, HB2.out⟩
        · rw [hok] at CALL
          have HOK := Lib.hid hok
          clear hok
          go_wp2_with fail
          refine (CALL.out _ HB1.out).mono ?_
          rintro e x ⟨rfl, hb⟩
          have CB2 := Lib.hid (CB1.out.next hb)
          clear hb t0 t1 t2 t3 t4 t5 t6 t7 c0 c1 c2
          go_wp2
          go_roundw
          case rel => exact ⟨k + 1, by omega, by go_num, CB2, Lib.hid (by unfold okTo; rw [hOK.out, HOK.out]; rfl)⟩
          case measure => simp [intOf]; omega
      · have hkn : k = c.tn := by omega
        subst hkn
        clear hlt hk
        go_wp2
        clear c0 c1 c2 c3 c4 c5
        go_loopw [5, 29] (fun s i wr => ∃ k : Nat, k ≤ 3 ∧ i = .int .i64 (k : Int) ∧ s = .bool (someTo c.cf.ts k) ∧ Hid (CBox w wr c) ∧ Hid (heldTo c.cl c.sl c.cf.ts k = true))
          (fun _ i _ => 3 - (intOf i).toNat)
        case atStart => exact ⟨0, by omega, rfl, rfl, CB, Lib.hid rfl⟩
        case round =>
          clear CB
          obtain ⟨k, hk, rfl, rfl, CB, hHE⟩ := hrel
          by_cases hlt : k < 3
          · have k1 : (k : Int) < 3 := by omega
            have c0 := CB.out.kf.cellv 0 (v := .int .i64 c.a) rfl
            have c1 := CB.out.kf.cellv 1 (v := .int .i64 c.b) rfl
            have c2 := CB.out.kf.cellv 2 (v := .slice c.fA c.fn c.fc) rfl
            have c3 := CB.out.kf.cellv 3 (v := .slice c.sA c.sn c.sc) rfl
            have c4 := CB.out.kf.cellv 4 (v := .slice c.tA c.tn c.tc) rfl
            have c5 := CB.out.kf.cellv 5 (v := .int .u64 (c.st : Int)) rfl
            have CALL := Lib.hid (fun W (hb : Below wr.heap.size wr W) => IP.out (k : Int) W (CB.out.bel.trans (hb.mono CB.out.bel.size)))
            have CALL2 := Lib.hid (fun W (hb : Below wr.heap.size wr W) => ON.out (k : Int) ⟨by omega, by omega⟩ W (CB.out.bel.trans (hb.mono CB.out.bel.size)))
            cases hp : presB c.cf.ts (k : Int)
            · rw [hp] at CALL
              have HP := Lib.hid hp
              clear hp
              cases ho : ownsB c.cl c.sl (k : Int)
              · rw [ho] at CALL2
                have HO := Lib.hid ho
                clear ho
                go_wp2_with fail
                refine (CALL.out _ (Below.refl _ _)).mono ?_
                rintro e x ⟨rfl, hb⟩
                have CB2 := Lib.hid (CB.out.next hb)
                have HB := Lib.hid hb
                clear hb c0 c1 c2 c3 c4 c5 CB
                have CB := CB2
                clear CB2
                have c0 := CB.out.kf.cellv 0 (v := .int .i64 c.a) rfl
                have c1 := CB.out.kf.cellv 1 (v := .int .i64 c.b) rfl
                have c2 := CB.out.kf.cellv 2 (v := .slice c.fA c.fn c.fc) rfl
                have c3 := CB.out.kf.cellv 3 (v := .slice c.sA c.sn c.sc) rfl
                have c4 := CB.out.kf.cellv 4 (v := .slice c.tA c.tn c.tc) rfl
                have c5 := CB.out.kf.cellv 5 (v := .int .u64 (c.st : Int)) rfl
                go_wp2_with fail
                refine (CALL2.out _ HB.out).mono ?_
                rintro e x ⟨rfl, hb⟩
                replace CB := Lib.hid (CB.out.next hb)
                clear hb c0 c1 c2 c3 c4 c5
                go_wp2
                go_ret
                exact ⟨by rw [hOK.out, heldTo_false HP.out HO.out hlt]; rfl, CB.out.bel⟩
              · rw [ho] at CALL2
                have HO := Lib.hid ho
                clear ho
                have hs1 : someTo c.cf.ts (k + 1) = someTo c.cf.ts k := by show (_ || _) = _; rw [HP.out, Bool.or_false]
                have HS1 := Lib.hid hs1
                clear hs1
                go_wp2_with fail
                refine (CALL.out _ (Below.refl _ _)).mono ?_
                rintro e x ⟨rfl, hb⟩
                have CB2 := Lib.hid (CB.out.next hb)
                have HB := Lib.hid hb
                clear hb c0 c1 c2 c3 c4 c5 CB
                have CB := CB2
                clear CB2
                have c0 := CB.out.kf.cellv 0 (v := .int .i64 c.a) rfl
                have c1 := CB.out.kf.cellv 1 (v := .int .i64 c.b) rfl
                have c2 := CB.out.kf.cellv 2 (v := .slice c.fA c.fn c.fc) rfl
                have c3 := CB.out.kf.cellv 3 (v := .slice c.sA c.sn c.sc) rfl
                have c4 := CB.out.kf.cellv 4 (v := .slice c.tA c.tn c.tc) rfl
                have c5 := CB.out.kf.cellv 5 (v := .int .u64 (c.st : Int)) rfl
                go_wp2_with fail
                refine (CALL2.out _ HB.out).mono ?_
                rintro e x ⟨rfl, hb⟩
                replace CB := Lib.hid (CB.out.next hb)
                clear hb c0 c1 c2 c3 c4 c5
                cases hsm : someTo c.cf.ts k
                all_goals
                  go_wp2
                  go_roundw
                  case rel => exact ⟨k + 1, by omega, by go_num, by rw [HS1.out, hsm], CB, Lib.hid (by show (_ && _) = true; rw [hHE.out, HO.out]; simp)⟩
                  case measure => simp [intOf]; omega
            · rw [hp] at CALL
              have HP := Lib.hid hp
              clear hp CALL2
              have hs1 : someTo c.cf.ts (k + 1) = true := by show (_ || _) = _; rw [HP.out, Bool.or_true]
              have HS1 := Lib.hid hs1
              clear hs1
              go_wp2_with fail
              refine (CALL.out _ (Below.refl _ _)).mono ?_
              rintro e x ⟨rfl, hb⟩
              replace CB := Lib.hid (CB.out.next hb)
              clear hb c0 c1 c2 c3 c4 c5
              cases hsm : someTo c.cf.ts k
              all_goals
                go_wp2
                go_roundw
                case rel => exact ⟨k + 1, by omega, by go_num, by rw [HS1.out], CB, Lib.hid (by show (_ && _) = true; rw [hHE.out, HP.out]; simp)⟩
                case measure => simp [intOf]; omega
          · have hk3 : k = 3 := by omega
            subst hk3
            go_wp2
            go_ret
            exact ⟨by rw [hOK.out, hHE.out]; rfl, CB.out.bel⟩
def checkS (a b : Int) (cl sl : List UInt8) (ts : List Team) (st : Nat) : Int :=
  if floorB a b cl then (if slicesB sl then (if validTeamsB cl sl ts then (if st > 4611686018427387904 then 2 else 0) else 70) else 60) else 50
def Cfg.chk (c : Cfg) : Int := checkS c.a c.b c.cl c.sl c.ts c.st
set_option maxHeartbeats 3200000 in
theorem check3_any (c : Cm) (w : World) (hc : c.In w w.heap.size) :
    Calls Try.prog 27 #[c.val] w fun e w' => e = .returned (.int .i64 c.cf.chk) ∧ Below w.heap.size w w' := by
  have CB := Lib.hid (cbox w c)
  have f1 := hc.f1; have s1 := hc.s1
  have V1 := Lib.hid (fun W (hb : Below w.heap.size w W) => check_any c.a c.b c.fA c.fn c.fc c.cl W ((hc.f.below hb).more hb.size) (by omega))
  have V2 := Lib.hid (fun W (hb : Below w.heap.size w W) => (checkSlices_any c.sA c.sn c.sc c.sl W ((hc.s.below hb).more hb.size) (by omega)).mono (R' := fun e w' => e = .returned (.int .i64 (if slicesB c.sl then 0 else 60)) ∧ Below W.heap.size W w') fun _ _ h => ⟨h.1, h.2 ▸ Below.refl _ _⟩)
  have E : Hid (c.cf.chk = if floorB c.a c.b c.cl then (if slicesB c.sl then (if validTeamsB c.cl c.sl c.cf.ts then (if c.st > 4611686018427387904 then 2 else 0) else 70) else 60) else 50) := Lib.hid rfl
  generalize c.cf.chk = RR at E ⊢
  cases hv : floorB c.a c.b c.cl
  · rw [hv] at V1 E
    simp only [Bool.false_eq_true, if_false] at V1 E
    clear hv hc V2
    go_enter Try.func27, Try.ntmps27
    go_upto_region 1 with fail
    generalize World.alloc _ _ = X at CB ⊢
    have c0 := CB.out.kf.cellv 0 (v := .int .i64 c.a) rfl
    have c1 := CB.out.kf.cellv 1 (v := .int .i64 c.b) rfl
    have c2 := CB.out.kf.cellv 2 (v := .slice c.fA c.fn c.fc) rfl
    have c3 := CB.out.kf.cellv 3 (v := .slice c.sA c.sn c.sc) rfl
    have c4 := CB.out.kf.cellv 4 (v := .slice c.tA c.tn c.tc) rfl
    have c5 := CB.out.kf.cellv 5 (v := .int .u64 (c.st : Int)) rfl
    go_wp2_with fail
    refine (V1.out _ CB.out.bel).mono ?_
    rintro e x ⟨rfl, hb⟩
    replace CB := Lib.hid (CB.out.next hb)
    clear hb
    clear c0 c1 c2 c3 c4 c5
    have c0 := CB.out.kf.cellv 0 (v := .int .i64 c.a) rfl
    have c1 := CB.out.kf.cellv 1 (v := .int .i64 c.b) rfl
    have c2 := CB.out.kf.cellv 2 (v := .slice c.fA c.fn c.fc) rfl
    have c3 := CB.out.kf.cellv 3 (v := .slice c.sA c.sn c.sc) rfl
    have c4 := CB.out.kf.cellv 4 (v := .slice c.tA c.tn c.tc) rfl
    have c5 := CB.out.kf.cellv 5 (v := .int .u64 (c.st : Int)) rfl
    go_wp2
    go_ret
    exact ⟨by rw [E.out]; rfl, CB.out.bel⟩
  · rw [hv] at V1 E
    simp only [if_true] at V1 E
    cases hs : slicesB c.sl
    · rw [hs] at V2 E
      simp only [Bool.false_eq_true, if_false] at V2 E
      clear hv hc hs
      go_enter Try.func27, Try.ntmps27
      go_upto_region 1 with fail
      generalize World.alloc _ _ = X at CB ⊢
      have c0 := CB.out.kf.cellv 0 (v := .int .i64 c.a) rfl
      have c1 := CB.out.kf.cellv 1 (v := .int .i64 c.b) rfl
      have c2 := CB.out.kf.cellv 2 (v := .slice c.fA c.fn c.fc) rfl
      have c3 := CB.out.kf.cellv 3 (v := .slice c.sA c.sn c.sc) rfl
      have c4 := CB.out.kf.cellv 4 (v := .slice c.tA c.tn c.tc) rfl
      have c5 := CB.out.kf.cellv 5 (v := .int .u64 (c.st : Int)) rfl
      go_wp2_with fail
      refine (V1.out _ CB.out.bel).mono ?_
      rintro e x ⟨rfl, hb⟩
      replace CB := Lib.hid (CB.out.next hb)
      clear hb
      clear c0 c1 c2 c3 c4 c5
      have c0 := CB.out.kf.cellv 0 (v := .int .i64 c.a) rfl
      have c1 := CB.out.kf.cellv 1 (v := .int .i64 c.b) rfl
      have c2 := CB.out.kf.cellv 2 (v := .slice c.fA c.fn c.fc) rfl
      have c3 := CB.out.kf.cellv 3 (v := .slice c.sA c.sn c.sc) rfl
      have c4 := CB.out.kf.cellv 4 (v := .slice c.tA c.tn c.tc) rfl
      have c5 := CB.out.kf.cellv 5 (v := .int .u64 (c.st : Int)) rfl
      go_wp2_with fail
      refine (V2.out _ CB.out.bel).mono ?_
      rintro e x ⟨rfl, hb⟩
      replace CB := Lib.hid (CB.out.next hb)
      clear hb
      clear c0 c1 c2 c3 c4 c5
      have c0 := CB.out.kf.cellv 0 (v := .int .i64 c.a) rfl
      have c1 := CB.out.kf.cellv 1 (v := .int .i64 c.b) rfl
      have c2 := CB.out.kf.cellv 2 (v := .slice c.fA c.fn c.fc) rfl
      have c3 := CB.out.kf.cellv 3 (v := .slice c.sA c.sn c.sc) rfl
      have c4 := CB.out.kf.cellv 4 (v := .slice c.tA c.tn c.tc) rfl
      have c5 := CB.out.kf.cellv 5 (v := .int .u64 (c.st : Int)) rfl
      go_wp2
      go_ret
      exact ⟨by rw [E.out]; rfl, CB.out.bel⟩
    · rw [hs] at V2 E
      simp only [if_true] at V2 E
      have V3 := Lib.hid (fun W (hb : Below w.heap.size w W) => hasValidTeams_any c W (hc.go hb) hv hs)
      generalize validTeamsB c.cl c.sl c.cf.ts = R at V3 E
      clear hv hs hc
      cases R
      · go_enter Try.func27, Try.ntmps27
        go_upto_region 1 with fail
        generalize World.alloc _ _ = X at CB ⊢
        have c0 := CB.out.kf.cellv 0 (v := .int .i64 c.a) rfl
        have c1 := CB.out.kf.cellv 1 (v := .int .i64 c.b) rfl
        have c2 := CB.out.kf.cellv 2 (v := .slice c.fA c.fn c.fc) rfl
        have c3 := CB.out.kf.cellv 3 (v := .slice c.sA c.sn c.sc) rfl
        have c4 := CB.out.kf.cellv 4 (v := .slice c.tA c.tn c.tc) rfl
        have c5 := CB.out.kf.cellv 5 (v := .int .u64 (c.st : Int)) rfl
        go_wp2_with fail
        refine (V1.out _ CB.out.bel).mono ?_
        rintro e x ⟨rfl, hb⟩
        replace CB := Lib.hid (CB.out.next hb)
        clear hb
        clear c0 c1 c2 c3 c4 c5
        have c0 := CB.out.kf.cellv 0 (v := .int .i64 c.a) rfl
        have c1 := CB.out.kf.cellv 1 (v := .int .i64 c.b) rfl
        have c2 := CB.out.kf.cellv 2 (v := .slice c.fA c.fn c.fc) rfl
        have c3 := CB.out.kf.cellv 3 (v := .slice c.sA c.sn c.sc) rfl
        have c4 := CB.out.kf.cellv 4 (v := .slice c.tA c.tn c.tc) rfl
        have c5 := CB.out.kf.cellv 5 (v := .int .u64 (c.st : Int)) rfl
        go_wp2_with fail
        refine (V2.out _ CB.out.bel).mono ?_
        rintro e x ⟨rfl, hb⟩
        replace CB := Lib.hid (CB.out.next hb)
        clear hb
        clear c0 c1 c2 c3 c4 c5
        have c0 := CB.out.kf.cellv 0 (v := .int .i64 c.a) rfl
        have c1 := CB.out.kf.cellv 1 (v := .int .i64 c.b) rfl
        have c2 := CB.out.kf.cellv 2 (v := .slice c.fA c.fn c.fc) rfl
        have c3 := CB.out.kf.cellv 3 (v := .slice c.sA c.sn c.sc) rfl
        have c4 := CB.out.kf.cellv 4 (v := .slice c.tA c.tn c.tc) rfl
        have c5 := CB.out.kf.cellv 5 (v := .int .u64 (c.st : Int)) rfl
        go_wp2_with fail
        refine (V3.out _ CB.out.bel).mono ?_
        rintro e x ⟨rfl, hb⟩
        replace CB := Lib.hid (CB.out.next hb)
        clear hb
        clear c0 c1 c2 c3 c4 c5
        have c0 := CB.out.kf.cellv 0 (v := .int .i64 c.a) rfl
        have c1 := CB.out.kf.cellv 1 (v := .int .i64 c.b) rfl
        have c2 := CB.out.kf.cellv 2 (v := .slice c.fA c.fn c.fc) rfl
        have c3 := CB.out.kf.cellv 3 (v := .slice c.sA c.sn c.sc) rfl
        have c4 := CB.out.kf.cellv 4 (v := .slice c.tA c.tn c.tc) rfl
        have c5 := CB.out.kf.cellv 5 (v := .int .u64 (c.st : Int)) rfl
        go_wp2
        go_ret
        exact ⟨by rw [E.out]; rfl, CB.out.bel⟩
      · simp only [if_true] at E
        by_cases h9 : c.st > 4611686018427387904
        · rw [if_pos h9] at E
          have d1 : decide ((c.st : Int) > 4611686018427387904) = true := by simp; omega
          clear h9
          go_enter Try.func27, Try.ntmps27
          go_upto_region 1 with fail
          generalize World.alloc _ _ = X at CB ⊢
          have c0 := CB.out.kf.cellv 0 (v := .int .i64 c.a) rfl
          have c1 := CB.out.kf.cellv 1 (v := .int .i64 c.b) rfl
          have c2 := CB.out.kf.cellv 2 (v := .slice c.fA c.fn c.fc) rfl
          have c3 := CB.out.kf.cellv 3 (v := .slice c.sA c.sn c.sc) rfl
          have c4 := CB.out.kf.cellv 4 (v := .slice c.tA c.tn c.tc) rfl
          have c5 := CB.out.kf.cellv 5 (v := .int .u64 (c.st : Int)) rfl
          go_wp2_with fail
          refine (V1.out _ CB.out.bel).mono ?_
          rintro e x ⟨rfl, hb⟩
          replace CB := Lib.hid (CB.out.next hb)
          clear hb
          clear c0 c1 c2 c3 c4 c5
          have c0 := CB.out.kf.cellv 0 (v := .int .i64 c.a) rfl
          have c1 := CB.out.kf.cellv 1 (v := .int .i64 c.b) rfl
          have c2 := CB.out.kf.cellv 2 (v := .slice c.fA c.fn c.fc) rfl
          have c3 := CB.out.kf.cellv 3 (v := .slice c.sA c.sn c.sc) rfl
          have c4 := CB.out.kf.cellv 4 (v := .slice c.tA c.tn c.tc) rfl
          have c5 := CB.out.kf.cellv 5 (v := .int .u64 (c.st : Int)) rfl
          go_wp2_with fail
          refine (V2.out _ CB.out.bel).mono ?_
          rintro e x ⟨rfl, hb⟩
          replace CB := Lib.hid (CB.out.next hb)
          clear hb
          clear c0 c1 c2 c3 c4 c5
          have c0 := CB.out.kf.cellv 0 (v := .int .i64 c.a) rfl
          have c1 := CB.out.kf.cellv 1 (v := .int .i64 c.b) rfl
          have c2 := CB.out.kf.cellv 2 (v := .slice c.fA c.fn c.fc) rfl
          have c3 := CB.out.kf.cellv 3 (v := .slice c.sA c.sn c.sc) rfl
          have c4 := CB.out.kf.cellv 4 (v := .slice c.tA c.tn c.tc) rfl
          have c5 := CB.out.kf.cellv 5 (v := .int .u64 (c.st : Int)) rfl
          go_wp2_with fail
          refine (V3.out _ CB.out.bel).mono ?_
          rintro e x ⟨rfl, hb⟩
          replace CB := Lib.hid (CB.out.next hb)
          clear hb
          clear c0 c1 c2 c3 c4 c5
          have c0 := CB.out.kf.cellv 0 (v := .int .i64 c.a) rfl
          have c1 := CB.out.kf.cellv 1 (v := .int .i64 c.b) rfl
          have c2 := CB.out.kf.cellv 2 (v := .slice c.fA c.fn c.fc) rfl
          have c3 := CB.out.kf.cellv 3 (v := .slice c.sA c.sn c.sc) rfl
          have c4 := CB.out.kf.cellv 4 (v := .slice c.tA c.tn c.tc) rfl
          have c5 := CB.out.kf.cellv 5 (v := .int .u64 (c.st : Int)) rfl
          go_wp2
          go_ret
          exact ⟨by rw [E.out]; rfl, CB.out.bel⟩
        · rw [if_neg h9] at E
          have d1 : decide ((c.st : Int) > 4611686018427387904) = false := by simp; omega
          clear h9
          go_enter Try.func27, Try.ntmps27
          go_upto_region 1 with fail
          generalize World.alloc _ _ = X at CB ⊢
          have c0 := CB.out.kf.cellv 0 (v := .int .i64 c.a) rfl
          have c1 := CB.out.kf.cellv 1 (v := .int .i64 c.b) rfl
          have c2 := CB.out.kf.cellv 2 (v := .slice c.fA c.fn c.fc) rfl
          have c3 := CB.out.kf.cellv 3 (v := .slice c.sA c.sn c.sc) rfl
          have c4 := CB.out.kf.cellv 4 (v := .slice c.tA c.tn c.tc) rfl
          have c5 := CB.out.kf.cellv 5 (v := .int .u64 (c.st : Int)) rfl
          go_wp2_with fail
          refine (V1.out _ CB.out.bel).mono ?_
          rintro e x ⟨rfl, hb⟩
          replace CB := Lib.hid (CB.out.next hb)
          clear hb
          clear c0 c1 c2 c3 c4 c5
          have c0 := CB.out.kf.cellv 0 (v := .int .i64 c.a) rfl
          have c1 := CB.out.kf.cellv 1 (v := .int .i64 c.b) rfl
          have c2 := CB.out.kf.cellv 2 (v := .slice c.fA c.fn c.fc) rfl
          have c3 := CB.out.kf.cellv 3 (v := .slice c.sA c.sn c.sc) rfl
          have c4 := CB.out.kf.cellv 4 (v := .slice c.tA c.tn c.tc) rfl
          have c5 := CB.out.kf.cellv 5 (v := .int .u64 (c.st : Int)) rfl
          go_wp2_with fail
          refine (V2.out _ CB.out.bel).mono ?_
          rintro e x ⟨rfl, hb⟩
          replace CB := Lib.hid (CB.out.next hb)
          clear hb
          clear c0 c1 c2 c3 c4 c5
          have c0 := CB.out.kf.cellv 0 (v := .int .i64 c.a) rfl
          have c1 := CB.out.kf.cellv 1 (v := .int .i64 c.b) rfl
          have c2 := CB.out.kf.cellv 2 (v := .slice c.fA c.fn c.fc) rfl
          have c3 := CB.out.kf.cellv 3 (v := .slice c.sA c.sn c.sc) rfl
          have c4 := CB.out.kf.cellv 4 (v := .slice c.tA c.tn c.tc) rfl
          have c5 := CB.out.kf.cellv 5 (v := .int .u64 (c.st : Int)) rfl
          go_wp2_with fail
          refine (V3.out _ CB.out.bel).mono ?_
          rintro e x ⟨rfl, hb⟩
          replace CB := Lib.hid (CB.out.next hb)
          clear hb
          clear c0 c1 c2 c3 c4 c5
          have c0 := CB.out.kf.cellv 0 (v := .int .i64 c.a) rfl
          have c1 := CB.out.kf.cellv 1 (v := .int .i64 c.b) rfl
          have c2 := CB.out.kf.cellv 2 (v := .slice c.fA c.fn c.fc) rfl
          have c3 := CB.out.kf.cellv 3 (v := .slice c.sA c.sn c.sc) rfl
          have c4 := CB.out.kf.cellv 4 (v := .slice c.tA c.tn c.tc) rfl
          have c5 := CB.out.kf.cellv 5 (v := .int .u64 (c.st : Int)) rfl
          go_wp2
          go_ret
          exact ⟨by rw [E.out]; rfl, CB.out.bel⟩
end Go.Proofs.Ytcbghchciplfcaa
