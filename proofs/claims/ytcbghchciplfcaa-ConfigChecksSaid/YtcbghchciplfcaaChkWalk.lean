/-
  CONFIGCHECKS: the walk.
-/
import Derived.Test.YtcbghchciplfcaaCfgTen
import Derived.Test.YtcbghchciplfcaaCfgTwin2
import Derived.Test.YtcbghchciplfcaaCfgSame2
import Derived.Deep.RegionHeld3
namespace Go.Proofs.Ytcbghchciplfcaa.configChecks
set_option linter.unusedVariables false
set_option linter.unusedSimpArgs false
set_option maxRecDepth 100000
open Go.RowKit

/-- the law's world: its config, and the twin in a variable of its own. -/
structure LW (w X : World) (c : Cm) (g : Nat) (u : Cm) : Prop where
  kf : Blk X w.heap.size 36 c.arr
  kg : Blk X g 36 u.arr
  bel : Below w.heap.size w X
  ui : u.In X X.heap.size
theorem LW.next {w X X' : World} {c u : Cm} {g : Nat} (h : LW w X c g u) (hb : Below X.heap.size X X') : LW w X' c g u :=
  ⟨h.kf.below hb h.kf.lt, h.kg.below hb h.kg.lt, h.bel.trans (hb.mono h.bel.size), h.ui.go hb⟩
set_option maxHeartbeats 6400000 in
theorem configChecks_walk (c : Cm) (t : Int) (w : World) (hc : c.In w w.heap.size) (ht : (Lit.int .i64 t).wf = true) :
    Calls Try.prog 5 #[c.val, .int .i64 t] w fun e w' => e = .returned (.bool true) ∧ Below w.heap.size w w' := by
  have CB := Lib.hid (cbox w c)
  have CI := Lib.hid hc
  have hl2 : c.cf.ts.length = c.tn := by rw [← hc.len]; simp [Cm.cf]
  have tb := hc.t1.2
  have TL : Hid ((tenantsS c.cf).1.length ≤ c.tn) := Lib.hid (by unfold tenantsS; split; (have := tenTo_le c.cf.ts c.cf.ts.length; rw [hl2] at this; rw [hl2]; exact this); exact Nat.zero_le _)
  clear hc ht hl2
  go_enter Try.func5, Try.ntmps5
  go_upto_region 1 with fail
  generalize World.alloc _ _ = X at CB ⊢
  have c0 := CB.out.kf.cellv 0 (v := .int .i64 c.a) rfl
  have c1 := CB.out.kf.cellv 1 (v := .int .i64 c.b) rfl
  have c2 := CB.out.kf.cellv 2 (v := .slice c.fA c.fn c.fc) rfl
  have c3 := CB.out.kf.cellv 3 (v := .slice c.sA c.sn c.sc) rfl
  have c4 := CB.out.kf.cellv 4 (v := .slice c.tA c.tn c.tc) rfl
  have c5 := CB.out.kf.cellv 5 (v := .int .u64 (c.st : Int)) rfl
  go_wp2_with fail
  refine (twinCfg_any c X (CI.out.go CB.out.bel)).mono ?_
  rintro e x ⟨u, rfl, hu, HO, hb⟩
  have HE := Lib.hid hu
  have BX := Lib.hid (CB.out.next hb)
  clear hb hu c0 c1 c2 c3 c4 c5 CB
  go_upto_region 2 with fail
  have LL : Hid (LW w (x.alloc (.cells u.arr 36)) c x.heap.size u) := Lib.hid ⟨BX.out.kf.alloc _, Blk.new x 36 u.arr, (BX.out.next (bk_alloc (Below.refl _ _) _)).bel, HO.out.In.go (bk_alloc (Below.refl _ _) _)⟩
  clear HO BX
  generalize x.alloc _ = Y at LL ⊢
  generalize x.heap.size = g at LL ⊢
  have c0 := LL.out.kf.cellv 0 (v := .int .i64 c.a) rfl
  have c1 := LL.out.kf.cellv 1 (v := .int .i64 c.b) rfl
  have c2 := LL.out.kf.cellv 2 (v := .slice c.fA c.fn c.fc) rfl
  have c3 := LL.out.kf.cellv 3 (v := .slice c.sA c.sn c.sc) rfl
  have c4 := LL.out.kf.cellv 4 (v := .slice c.tA c.tn c.tc) rfl
  have c5 := LL.out.kf.cellv 5 (v := .int .u64 (c.st : Int)) rfl
  have d0 := LL.out.kg.cellv 0 (v := .int .i64 u.a) rfl
  have d1 := LL.out.kg.cellv 1 (v := .int .i64 u.b) rfl
  have d2 := LL.out.kg.cellv 2 (v := .slice u.fA u.fn u.fc) rfl
  have d3 := LL.out.kg.cellv 3 (v := .slice u.sA u.sn u.sc) rfl
  have d4 := LL.out.kg.cellv 4 (v := .slice u.tA u.tn u.tc) rfl
  have d5 := LL.out.kg.cellv 5 (v := .int .u64 (u.st : Int)) rfl
  have P1 := Lib.hid (fun W (hb : LW w W c g u) => present_any u t W hb.ui)
  have P2 := Lib.hid (fun W (hb : LW w W c g u) => presence_any c t W (CI.out.go hb.bel))
  have P3 := Lib.hid (fun W (hb : LW w W c g u) => check3_any u W hb.ui)
  have P4 := Lib.hid (fun W (hb : LW w W c g u) => refCheck3_any c W (CI.out.go hb.bel))
  have P5 := Lib.hid (fun W (hb : LW w W c g u) => tenants_any u W hb.ui)
  have P6 := Lib.hid (fun W (hb : LW w W c g u) => refTenants_any c W (CI.out.go hb.bel))
  have P7 := Lib.hid (fun W (hb : LW w W c g u) => refSame_any u c W hb.ui (CI.out.go hb.bel))
  rw [HE.out] at P1 P3 P5 P7
  rw [decide_eq_true rfl] at P7
  generalize presentS c.cf t = PR at P1 P2
  generalize c.cf.chk = CK at P3 P4
  generalize tenantsS c.cf = TE at P5 P6 TL
  have r1 : (PR.1 != PR.1) = false := by simp
  have r2 : (PR.2 != PR.2) = false := by simp
  have r3 : (CK != CK) = false := by simp
  have r4 : (TE.2 == TE.2) = true := by simp
  go_wp2_with fail
  refine (P1.out _ LL.out).mono ?_
  rintro e x ⟨rfl, hb⟩
  replace LL := Lib.hid (LL.out.next hb)
  clear c0 c1 c2 c3 c4 c5 d0 d1 d2 d3 d4 d5
  have c0 := LL.out.kf.cellv 0 (v := .int .i64 c.a) rfl
  have c1 := LL.out.kf.cellv 1 (v := .int .i64 c.b) rfl
  have c2 := LL.out.kf.cellv 2 (v := .slice c.fA c.fn c.fc) rfl
  have c3 := LL.out.kf.cellv 3 (v := .slice c.sA c.sn c.sc) rfl
  have c4 := LL.out.kf.cellv 4 (v := .slice c.tA c.tn c.tc) rfl
  have c5 := LL.out.kf.cellv 5 (v := .int .u64 (c.st : Int)) rfl
  have d0 := LL.out.kg.cellv 0 (v := .int .i64 u.a) rfl
  have d1 := LL.out.kg.cellv 1 (v := .int .i64 u.b) rfl
  have d2 := LL.out.kg.cellv 2 (v := .slice u.fA u.fn u.fc) rfl
  have d3 := LL.out.kg.cellv 3 (v := .slice u.sA u.sn u.sc) rfl
  have d4 := LL.out.kg.cellv 4 (v := .slice u.tA u.tn u.tc) rfl
  have d5 := LL.out.kg.cellv 5 (v := .int .u64 (u.st : Int)) rfl
  clear hb
  go_wp2_with fail
  refine (P2.out _ LL.out).mono ?_
  rintro e x ⟨rfl, hb⟩
  replace LL := Lib.hid (LL.out.next hb)
  clear c0 c1 c2 c3 c4 c5 d0 d1 d2 d3 d4 d5
  have c0 := LL.out.kf.cellv 0 (v := .int .i64 c.a) rfl
  have c1 := LL.out.kf.cellv 1 (v := .int .i64 c.b) rfl
  have c2 := LL.out.kf.cellv 2 (v := .slice c.fA c.fn c.fc) rfl
  have c3 := LL.out.kf.cellv 3 (v := .slice c.sA c.sn c.sc) rfl
  have c4 := LL.out.kf.cellv 4 (v := .slice c.tA c.tn c.tc) rfl
  have c5 := LL.out.kf.cellv 5 (v := .int .u64 (c.st : Int)) rfl
  have d0 := LL.out.kg.cellv 0 (v := .int .i64 u.a) rfl
  have d1 := LL.out.kg.cellv 1 (v := .int .i64 u.b) rfl
  have d2 := LL.out.kg.cellv 2 (v := .slice u.fA u.fn u.fc) rfl
  have d3 := LL.out.kg.cellv 3 (v := .slice u.sA u.sn u.sc) rfl
  have d4 := LL.out.kg.cellv 4 (v := .slice u.tA u.tn u.tc) rfl
  have d5 := LL.out.kg.cellv 5 (v := .int .u64 (u.st : Int)) rfl
  clear hb
  go_wp2
  have KS : Hid (∀ W', Below x.heap.size x W' → Below x.heap.size x W' ∧ W'.cell? ⟨w.heap.size, 0, none⟩ = some (.int .i64 c.a) ∧ W'.cell? ⟨w.heap.size, 1, none⟩ = some (.int .i64 c.b) ∧ W'.cell? ⟨w.heap.size, 2, none⟩ = some (.slice c.fA c.fn c.fc) ∧ W'.cell? ⟨w.heap.size, 3, none⟩ = some (.slice c.sA c.sn c.sc) ∧ W'.cell? ⟨w.heap.size, 4, none⟩ = some (.slice c.tA c.tn c.tc) ∧ W'.cell? ⟨w.heap.size, 5, none⟩ = some (.int .u64 (c.st : Int)) ∧ W'.cell? ⟨g, 0, none⟩ = some (.int .i64 u.a) ∧ W'.cell? ⟨g, 1, none⟩ = some (.int .i64 u.b) ∧ W'.cell? ⟨g, 2, none⟩ = some (.slice u.fA u.fn u.fc) ∧ W'.cell? ⟨g, 3, none⟩ = some (.slice u.sA u.sn u.sc) ∧ W'.cell? ⟨g, 4, none⟩ = some (.slice u.tA u.tn u.tc) ∧ W'.cell? ⟨g, 5, none⟩ = some (.int .u64 (u.st : Int))
    ) := Lib.hid (fun W' hb => by
    have H := LL.out.next hb
    exact ⟨hb, H.kf.cellv 0 rfl, H.kf.cellv 1 rfl, H.kf.cellv 2 rfl, H.kf.cellv 3 rfl, H.kf.cellv 4 rfl, H.kf.cellv 5 rfl, H.kg.cellv 0 rfl, H.kg.cellv 1 rfl, H.kg.cellv 2 rfl, H.kg.cellv 3 rfl, H.kg.cellv 4 rfl, H.kg.cellv 5 rfl⟩)
  have W3 := Lib.hid (fun W (hb : Below x.heap.size x W) => (P3.out W (LL.out.next hb)).mono (R' := fun e w' => e = .returned (.int .i64 CK) ∧ Below x.heap.size x w') fun _ _ h => ⟨h.1, hb.trans (h.2.mono hb.size)⟩)
  have W4 := Lib.hid (fun W (hb : Below x.heap.size x W) => (P4.out W (LL.out.next hb)).mono (R' := fun e w' => e = .returned (.int .i64 CK) ∧ Below x.heap.size x w') fun _ _ h => ⟨h.1, hb.trans (h.2.mono hb.size)⟩)
  clear c0 c1 c2 c3 c4 c5 d0 d1 d2 d3 d4 d5
  go_cut [40] (fun s wx => s = .bool false ∧ Hid (Below x.heap.size x wx))
  case first =>
    go_region_held3 (fun W' => Below x.heap.size x W' ∧ W'.cell? ⟨w.heap.size, 0, none⟩ = some (.int .i64 c.a) ∧ W'.cell? ⟨w.heap.size, 1, none⟩ = some (.int .i64 c.b) ∧ W'.cell? ⟨w.heap.size, 2, none⟩ = some (.slice c.fA c.fn c.fc) ∧ W'.cell? ⟨w.heap.size, 3, none⟩ = some (.slice c.sA c.sn c.sc) ∧ W'.cell? ⟨w.heap.size, 4, none⟩ = some (.slice c.tA c.tn c.tc) ∧ W'.cell? ⟨w.heap.size, 5, none⟩ = some (.int .u64 (c.st : Int)) ∧ W'.cell? ⟨g, 0, none⟩ = some (.int .i64 u.a) ∧ W'.cell? ⟨g, 1, none⟩ = some (.int .i64 u.b) ∧ W'.cell? ⟨g, 2, none⟩ = some (.slice u.fA u.fn u.fc) ∧ W'.cell? ⟨g, 3, none⟩ = some (.slice u.sA u.sn u.sc) ∧ W'.cell? ⟨g, 4, none⟩ = some (.slice u.tA u.tn u.tc) ∧ W'.cell? ⟨g, 5, none⟩ = some (.int .u64 (u.st : Int))
    )
      ((refine KS.out _ ?_; repeat (first | (with_reducible assumption) | (with_reducible exact Below.refl _ _) | (with_reducible refine bk_drew ?_) | (with_reducible refine bk_alloc ?_ _))))
      (first
        | (go_at_call 27
           (refine (W3.out _ ?_).mono ?_
            · (repeat (first | (with_reducible assumption) | (with_reducible exact Below.refl _ _) | (with_reducible refine bk_drew ?_) | (with_reducible refine bk_alloc ?_ _)))
            rintro e v1 ⟨rfl, hv1⟩))
        | (go_at_call 40
           (refine (W4.out _ ?_).mono ?_
            · (repeat (first | (with_reducible assumption) | (with_reducible exact Below.refl _ _) | (with_reducible refine bk_drew ?_) | (with_reducible refine bk_alloc ?_ _)))
            rintro e v2 ⟨rfl, hv2⟩)))
    all_goals (go_wp2_with fail; go_split_ands; go_meet; exact ⟨rfl, Lib.hid (by assumption)⟩)
  case rest =>
    obtain ⟨rfl, hbx⟩ := hcut
    replace LL := Lib.hid (LL.out.next hbx.out)
    clear hbx KS W3 W4
    have c0 := LL.out.kf.cellv 0 (v := .int .i64 c.a) rfl
    have c1 := LL.out.kf.cellv 1 (v := .int .i64 c.b) rfl
    have c2 := LL.out.kf.cellv 2 (v := .slice c.fA c.fn c.fc) rfl
    have c3 := LL.out.kf.cellv 3 (v := .slice c.sA c.sn c.sc) rfl
    have c4 := LL.out.kf.cellv 4 (v := .slice c.tA c.tn c.tc) rfl
    have c5 := LL.out.kf.cellv 5 (v := .int .u64 (c.st : Int)) rfl
    have d0 := LL.out.kg.cellv 0 (v := .int .i64 u.a) rfl
    have d1 := LL.out.kg.cellv 1 (v := .int .i64 u.b) rfl
    have d2 := LL.out.kg.cellv 2 (v := .slice u.fA u.fn u.fc) rfl
    have d3 := LL.out.kg.cellv 3 (v := .slice u.sA u.sn u.sc) rfl
    have d4 := LL.out.kg.cellv 4 (v := .slice u.tA u.tn u.tc) rfl
    have d5 := LL.out.kg.cellv 5 (v := .int .u64 (u.st : Int)) rfl
    go_wp2_with fail
    refine (P5.out _ LL.out).mono ?_
    rintro e x ⟨A1, cc1, rfl, H1, hb⟩
    replace LL := Lib.hid (LL.out.next hb)
    clear c0 c1 c2 c3 c4 c5 d0 d1 d2 d3 d4 d5
    have c0 := LL.out.kf.cellv 0 (v := .int .i64 c.a) rfl
    have c1 := LL.out.kf.cellv 1 (v := .int .i64 c.b) rfl
    have c2 := LL.out.kf.cellv 2 (v := .slice c.fA c.fn c.fc) rfl
    have c3 := LL.out.kf.cellv 3 (v := .slice c.sA c.sn c.sc) rfl
    have c4 := LL.out.kf.cellv 4 (v := .slice c.tA c.tn c.tc) rfl
    have c5 := LL.out.kf.cellv 5 (v := .int .u64 (c.st : Int)) rfl
    have d0 := LL.out.kg.cellv 0 (v := .int .i64 u.a) rfl
    have d1 := LL.out.kg.cellv 1 (v := .int .i64 u.b) rfl
    have d2 := LL.out.kg.cellv 2 (v := .slice u.fA u.fn u.fc) rfl
    have d3 := LL.out.kg.cellv 3 (v := .slice u.sA u.sn u.sc) rfl
    have d4 := LL.out.kg.cellv 4 (v := .slice u.tA u.tn u.tc) rfl
    have d5 := LL.out.kg.cellv 5 (v := .int .u64 (u.st : Int)) rfl
    clear hb
    go_wp2_with fail
    refine (P6.out _ LL.out).mono ?_
    rintro e x ⟨A2, cc2, rfl, H2, hb⟩
    replace LL := Lib.hid (LL.out.next hb)
    clear c0 c1 c2 c3 c4 c5 d0 d1 d2 d3 d4 d5
    have c0 := LL.out.kf.cellv 0 (v := .int .i64 c.a) rfl
    have c1 := LL.out.kf.cellv 1 (v := .int .i64 c.b) rfl
    have c2 := LL.out.kf.cellv 2 (v := .slice c.fA c.fn c.fc) rfl
    have c3 := LL.out.kf.cellv 3 (v := .slice c.sA c.sn c.sc) rfl
    have c4 := LL.out.kf.cellv 4 (v := .slice c.tA c.tn c.tc) rfl
    have c5 := LL.out.kf.cellv 5 (v := .int .u64 (c.st : Int)) rfl
    have d0 := LL.out.kg.cellv 0 (v := .int .i64 u.a) rfl
    have d1 := LL.out.kg.cellv 1 (v := .int .i64 u.b) rfl
    have d2 := LL.out.kg.cellv 2 (v := .slice u.fA u.fn u.fc) rfl
    have d3 := LL.out.kg.cellv 3 (v := .slice u.sA u.sn u.sc) rfl
    have d4 := LL.out.kg.cellv 4 (v := .slice u.tA u.tn u.tc) rfl
    have d5 := LL.out.kg.cellv 5 (v := .int .u64 (u.st : Int)) rfl
    have R1 := Lib.hid ((Reads.of_own H1.out).below hb |>.more hb.size)
    have R2 := Lib.hid (Reads.of_own H2.out)
    clear hb H1 H2
    have P8 := Lib.hid (sameInts_b A1 A2 TE.1.length TE.1.length cc1 cc2 TE.1 TE.1 x R1.out R2.out (by have := TL.out; omega))
    rw [decide_eq_true rfl] at P8
    go_wp2_with fail
    refine (P8.out).mono ?_
    rintro e x ⟨rfl, hb⟩
    replace LL := Lib.hid (LL.out.next hb)
    clear c0 c1 c2 c3 c4 c5 d0 d1 d2 d3 d4 d5
    have c0 := LL.out.kf.cellv 0 (v := .int .i64 c.a) rfl
    have c1 := LL.out.kf.cellv 1 (v := .int .i64 c.b) rfl
    have c2 := LL.out.kf.cellv 2 (v := .slice c.fA c.fn c.fc) rfl
    have c3 := LL.out.kf.cellv 3 (v := .slice c.sA c.sn c.sc) rfl
    have c4 := LL.out.kf.cellv 4 (v := .slice c.tA c.tn c.tc) rfl
    have c5 := LL.out.kf.cellv 5 (v := .int .u64 (c.st : Int)) rfl
    have d0 := LL.out.kg.cellv 0 (v := .int .i64 u.a) rfl
    have d1 := LL.out.kg.cellv 1 (v := .int .i64 u.b) rfl
    have d2 := LL.out.kg.cellv 2 (v := .slice u.fA u.fn u.fc) rfl
    have d3 := LL.out.kg.cellv 3 (v := .slice u.sA u.sn u.sc) rfl
    have d4 := LL.out.kg.cellv 4 (v := .slice u.tA u.tn u.tc) rfl
    have d5 := LL.out.kg.cellv 5 (v := .int .u64 (u.st : Int)) rfl
    clear hb
    go_wp2_with fail
    refine (P7.out _ LL.out).mono ?_
    rintro e x ⟨rfl, hb⟩
    replace LL := Lib.hid (LL.out.next hb)
    clear c0 c1 c2 c3 c4 c5 d0 d1 d2 d3 d4 d5
    have c0 := LL.out.kf.cellv 0 (v := .int .i64 c.a) rfl
    have c1 := LL.out.kf.cellv 1 (v := .int .i64 c.b) rfl
    have c2 := LL.out.kf.cellv 2 (v := .slice c.fA c.fn c.fc) rfl
    have c3 := LL.out.kf.cellv 3 (v := .slice c.sA c.sn c.sc) rfl
    have c4 := LL.out.kf.cellv 4 (v := .slice c.tA c.tn c.tc) rfl
    have c5 := LL.out.kf.cellv 5 (v := .int .u64 (c.st : Int)) rfl
    have d0 := LL.out.kg.cellv 0 (v := .int .i64 u.a) rfl
    have d1 := LL.out.kg.cellv 1 (v := .int .i64 u.b) rfl
    have d2 := LL.out.kg.cellv 2 (v := .slice u.fA u.fn u.fc) rfl
    have d3 := LL.out.kg.cellv 3 (v := .slice u.sA u.sn u.sc) rfl
    have d4 := LL.out.kg.cellv 4 (v := .slice u.tA u.tn u.tc) rfl
    have d5 := LL.out.kg.cellv 5 (v := .int .u64 (u.st : Int)) rfl
    clear hb
    go_wp2
    go_ret
    exact ⟨rfl, LL.out.bel⟩
end Go.Proofs.Ytcbghchciplfcaa.configChecks
