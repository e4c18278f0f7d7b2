/-
  CONFIGTEAMS: the walk.
-/
import Derived.Test.YtcbghchciplfcaaCfgCheckT
import Derived.Test.YtcbghchciplfcaaCfgMut
import Derived.Deep.RegionHeld3
namespace Go.Proofs.Ytcbghchciplfcaa.configTeams
set_option linter.unusedVariables false
set_option linter.unusedSimpArgs false
set_option maxRecDepth 100000
open Go.RowKit

/-- the law's world: the floor, the team, the twin in a variable of its own. -/
structure LW (w X : World) (a b : Int) (fv : Value) (m : Tm) (g : Nat) (u : Tm) : Prop where
  kf : Blk X w.heap.size 30 #[.int .i64 a, .int .i64 b, fv]
  km : Blk X (w.heap.size + 1) 24 m.arr
  ku : Blk X g 24 u.arr
  bel : Below w.heap.size w X
  ui : u.In X X.heap.size
theorem LW.next {w X X' : World} {a b : Int} {fv : Value} {m u : Tm} {g : Nat} (h : LW w X a b fv m g u) (hb : Below X.heap.size X X') : LW w X' a b fv m g u :=
  ⟨h.kf.below hb h.kf.lt, h.km.below hb h.km.lt, h.ku.below hb h.ku.lt, h.bel.trans (hb.mono h.bel.size), h.ui.go hb⟩
set_option maxHeartbeats 12800000 in
theorem configTeams_walk (a b : Int) (A : Option Addr) (n c : Nat) (cl : List UInt8) (t : Int) (m : Tm) (w : World) (hr : Reads w w.heap.size 1 A n (bv cl)) (hnc : n ≤ c) (hcc : c ≤ 140737488351232) (ht : (Lit.int .i64 t).wf = true) (hm : m.In w w.heap.size) (hs : m.hn + m.pn + m.dn ≤ 1048576) :
    Calls Try.prog 4 #[.agg #[.int .i64 a, .int .i64 b, .slice A n c], .int .i64 t, m.val] w fun e w' => e = .returned (.bool true) ∧ Below w.heap.size w w' := by
  have FT := Lib.hid (ftb w a b (.slice A n c) m)
  have MI := Lib.hid hm
  have RF := Lib.hid (fun W (hb : Below w.heap.size w W) => (hr.below hb).more hb.size)
  have hn : n ≤ 140737488351232 := by omega
  clear hr hnc hcc ht hm
  go_enter Try.func4, Try.ntmps4
  go_upto_region 1 with fail
  generalize World.alloc _ _ = X at FT ⊢
  have mc0 := FT.out.kt.cellv 0 (v := .slice m.hA m.hn m.hc) rfl
  have mc1 := FT.out.kt.cellv 1 (v := .slice m.pA m.pn m.pc) rfl
  have mc2 := FT.out.kt.cellv 2 (v := .slice m.dA m.dn m.dc) rfl
  have mc3 := FT.out.kt.cellv 3 (v := .int .i64 m.tm.lo) rfl
  have mc4 := FT.out.kt.cellv 4 (v := .int .i64 m.tm.un) rfl
  have mc5 := FT.out.kt.cellv 5 (v := .int .i64 m.tm.qu) rfl
  have mc6 := FT.out.kt.cellv 6 (v := .int .i64 m.tm.qt) rfl
  have mc7 := FT.out.kt.cellv 7 (v := .int .i64 m.tm.wi) rfl
  go_wp2_with fail
  refine (twinTeam_any m X (MI.out.go FT.out.bel)).mono ?_
  rintro e x ⟨u, rfl, hu, HO, hb⟩
  have HE := Lib.hid hu
  have hul : u.hn + u.pn + u.dn ≤ 1048576 := by
    have h1 := (MI.out.go FT.out.bel).h.len; have h2 := (MI.out.go FT.out.bel).p.len; have h3 := (MI.out.go FT.out.bel).d.len
    have k1 := HO.out.In.h.len; have k2 := HO.out.In.p.len; have k3 := HO.out.In.d.len
    rw [hu] at k1 k2 k3
    omega
  have BX := Lib.hid (FT.out.next hb)
  clear mc0 mc1 mc2 mc3 mc4 mc5 mc6 mc7
  clear hb hu FT
  go_upto_region 2 with fail
  have LL : Hid (LW w (x.alloc (.cells u.arr 24)) a b (.slice A n c) m x.heap.size u) := Lib.hid ⟨BX.out.kf.alloc _, BX.out.kt.alloc _, Blk.new x 24 u.arr, (BX.out.next (bk_alloc (Below.refl _ _) _)).bel, HO.out.In.go (bk_alloc (Below.refl _ _) _)⟩
  clear HO BX
  generalize x.alloc _ = Y at LL ⊢
  generalize x.heap.size = g at LL ⊢
  have uc0 := LL.out.ku.cellv 0 (v := .slice u.hA u.hn u.hc) rfl
  have uc1 := LL.out.ku.cellv 1 (v := .slice u.pA u.pn u.pc) rfl
  have uc2 := LL.out.ku.cellv 2 (v := .slice u.dA u.dn u.dc) rfl
  have uc3 := LL.out.ku.cellv 3 (v := .int .i64 u.tm.lo) rfl
  have uc4 := LL.out.ku.cellv 4 (v := .int .i64 u.tm.un) rfl
  have uc5 := LL.out.ku.cellv 5 (v := .int .i64 u.tm.qu) rfl
  have uc6 := LL.out.ku.cellv 6 (v := .int .i64 u.tm.qt) rfl
  have uc7 := LL.out.ku.cellv 7 (v := .int .i64 u.tm.wi) rfl
  go_wp2_with fail
  refine (spots_any u Y LL.out.ui (by omega)).mono ?_
  rintro e x ⟨S, cS, rfl, HS, hb⟩
  clear uc0 uc1 uc2 uc3 uc4 uc5 uc6 uc7
  have L0 := LL
  have B0 := Lib.hid hb
  replace LL := Lib.hid (LL.out.next hb)
  clear hb
  obtain ⟨l, hl⟩ : ∃ l, l = m.tm.spots := ⟨_, rfl⟩
  rw [HE.out, ← hl] at HS ⊢
  have hll : l.length ≤ 1048576 := by
    have := sp_len MI.out
    rw [hl, this]
    exact hs
  have P1 := Lib.hid (fun W (hb : LW w W a b (.slice A n c) m g u) => absent_any u W hb.ui)
  have P2 := Lib.hid (fun W (hb : LW w W a b (.slice A n c) m g u) => refAbsent_any m W (MI.out.go hb.bel))
  have P3 := Lib.hid (fun W (hb : LW w W a b (.slice A n c) m g u) => refSpots_any m W (MI.out.go hb.bel) (by omega))
  have P4 := Lib.hid (fun W (hb : LW w W a b (.slice A n c) m g u) => checkTeam_any a b A n c cl t u W (RF.out W hb.bel) hn hb.ui)
  have P5 := Lib.hid (fun W (hb : LW w W a b (.slice A n c) m g u) => refCheckTeam_any a b A n c cl t m W (RF.out W hb.bel) hn (MI.out.go hb.bel))
  rw [HE.out] at P1 P4
  rw [← hl] at P3
  clear hl hs hul
  generalize m.tm.absB = R1 at P1 P2
  generalize checkTeamS a b cl t m.tm = R2 at P4 P5
  have r1 : (R1 != R1) = false := by simp
  have r2 : (R2 != R2) = false := by simp
  have KS : Hid (∀ W', Below x.heap.size x W' → Below x.heap.size x W' ∧ W'.cell? ⟨w.heap.size, 0, none⟩ = some (.int .i64 a) ∧ W'.cell? ⟨w.heap.size, 1, none⟩ = some (.int .i64 b) ∧ W'.cell? ⟨w.heap.size, 2, none⟩ = some (.slice A n c) ∧ W'.cell? ⟨w.heap.size + 1, 0, none⟩ = some (.slice m.hA m.hn m.hc) ∧ W'.cell? ⟨w.heap.size + 1, 1, none⟩ = some (.slice m.pA m.pn m.pc) ∧ W'.cell? ⟨w.heap.size + 1, 2, none⟩ = some (.slice m.dA m.dn m.dc) ∧ W'.cell? ⟨w.heap.size + 1, 3, none⟩ = some (.int .i64 m.tm.lo) ∧ W'.cell? ⟨w.heap.size + 1, 4, none⟩ = some (.int .i64 m.tm.un) ∧ W'.cell? ⟨w.heap.size + 1, 5, none⟩ = some (.int .i64 m.tm.qu) ∧ W'.cell? ⟨w.heap.size + 1, 6, none⟩ = some (.int .i64 m.tm.qt) ∧ W'.cell? ⟨w.heap.size + 1, 7, none⟩ = some (.int .i64 m.tm.wi) ∧ W'.cell? ⟨g, 0, none⟩ = some (.slice u.hA u.hn u.hc) ∧ W'.cell? ⟨g, 1, none⟩ = some (.slice u.pA u.pn u.pc) ∧ W'.cell? ⟨g, 2, none⟩ = some (.slice u.dA u.dn u.dc) ∧ W'.cell? ⟨g, 3, none⟩ = some (.int .i64 u.tm.lo) ∧ W'.cell? ⟨g, 4, none⟩ = some (.int .i64 u.tm.un) ∧ W'.cell? ⟨g, 5, none⟩ = some (.int .i64 u.tm.qu) ∧ W'.cell? ⟨g, 6, none⟩ = some (.int .i64 u.tm.qt) ∧ W'.cell? ⟨g, 7, none⟩ = some (.int .i64 u.tm.wi)
    ) := Lib.hid (fun W' hb => by
    have H := LL.out.next hb
    exact ⟨hb, H.kf.cellv 0 rfl, H.kf.cellv 1 rfl, H.kf.cellv 2 rfl, H.km.cellv 0 rfl, H.km.cellv 1 rfl, H.km.cellv 2 rfl, H.km.cellv 3 rfl, H.km.cellv 4 rfl, H.km.cellv 5 rfl, H.km.cellv 6 rfl, H.km.cellv 7 rfl, H.ku.cellv 0 rfl, H.ku.cellv 1 rfl, H.ku.cellv 2 rfl, H.ku.cellv 3 rfl, H.ku.cellv 4 rfl, H.ku.cellv 5 rfl, H.ku.cellv 6 rfl, H.ku.cellv 7 rfl⟩)
  have W1 := Lib.hid (fun W (hb : Below x.heap.size x W) => (P1.out W (LL.out.next hb)).mono (R' := fun e w' => e = .returned (.bool R1) ∧ Below x.heap.size x w') fun _ _ h => ⟨h.1, hb.trans (h.2.mono hb.size)⟩)
  have W2 := Lib.hid (fun W (hb : Below x.heap.size x W) => (P2.out W (LL.out.next hb)).mono (R' := fun e w' => e = .returned (.bool R1) ∧ Below x.heap.size x w') fun _ _ h => ⟨h.1, hb.trans (h.2.mono hb.size)⟩)
  have W4 := Lib.hid (fun W (hb : Below x.heap.size x W) => (P4.out W (LL.out.next hb)).mono (R' := fun e w' => e = .returned (.int .i64 R2) ∧ Below x.heap.size x w') fun _ _ h => ⟨h.1, hb.trans (h.2.mono hb.size)⟩)
  have W5 := Lib.hid (fun W (hb : Below x.heap.size x W) => (P5.out W (LL.out.next hb)).mono (R' := fun e w' => e = .returned (.int .i64 R2) ∧ Below x.heap.size x w') fun _ _ h => ⟨h.1, hb.trans (h.2.mono hb.size)⟩)
  have W3 := Lib.hid (fun W (hb : Below x.heap.size x W) => (P3.out W (LL.out.next hb)).mono (R' := fun e w' => ∃ A' c', e = .returned (.slice A' l.length c') ∧ Hid (Reads w' w'.heap.size 1 A' l.length (iv l)) ∧ Below x.heap.size x w') fun _ _ ⟨A', c', h1, h2, h3⟩ => ⟨A', c', h1, Lib.hid (Reads.of_own h2.out), hb.trans (h3.mono hb.size)⟩)
  have RS := Lib.hid (Reads.of_own HS.out)
  have W6 : Hid (∀ (A' : Option Addr) (c' : Nat) W (hb : Below x.heap.size x W) (h : Hid (Reads W W.heap.size 1 A' l.length (iv l))), Calls Try.prog 34 #[.slice S l.length cS, .slice A' l.length c'] W fun e w' => e = .returned (.bool true) ∧ Below x.heap.size x w') :=
    Lib.hid (fun A' c' W hb h => (sameInts_b S A' l.length l.length cS c' l l W ((RS.out.below hb).more hb.size) h.out (by omega)).mono fun _ _ h => ⟨by rw [h.1, decide_eq_true rfl], hb.trans (h.2.mono hb.size)⟩)
  clear P1 P2 P3 P4 P5
  go_wp2
  go_cut [36] (fun s wx => s = .bool false ∧ Hid (Below x.heap.size x wx))
  case first =>
    go_region_held3 (fun W' => Below x.heap.size x W' ∧ W'.cell? ⟨w.heap.size, 0, none⟩ = some (.int .i64 a) ∧ W'.cell? ⟨w.heap.size, 1, none⟩ = some (.int .i64 b) ∧ W'.cell? ⟨w.heap.size, 2, none⟩ = some (.slice A n c) ∧ W'.cell? ⟨w.heap.size + 1, 0, none⟩ = some (.slice m.hA m.hn m.hc) ∧ W'.cell? ⟨w.heap.size + 1, 1, none⟩ = some (.slice m.pA m.pn m.pc) ∧ W'.cell? ⟨w.heap.size + 1, 2, none⟩ = some (.slice m.dA m.dn m.dc) ∧ W'.cell? ⟨w.heap.size + 1, 3, none⟩ = some (.int .i64 m.tm.lo) ∧ W'.cell? ⟨w.heap.size + 1, 4, none⟩ = some (.int .i64 m.tm.un) ∧ W'.cell? ⟨w.heap.size + 1, 5, none⟩ = some (.int .i64 m.tm.qu) ∧ W'.cell? ⟨w.heap.size + 1, 6, none⟩ = some (.int .i64 m.tm.qt) ∧ W'.cell? ⟨w.heap.size + 1, 7, none⟩ = some (.int .i64 m.tm.wi) ∧ W'.cell? ⟨g, 0, none⟩ = some (.slice u.hA u.hn u.hc) ∧ W'.cell? ⟨g, 1, none⟩ = some (.slice u.pA u.pn u.pc) ∧ W'.cell? ⟨g, 2, none⟩ = some (.slice u.dA u.dn u.dc) ∧ W'.cell? ⟨g, 3, none⟩ = some (.int .i64 u.tm.lo) ∧ W'.cell? ⟨g, 4, none⟩ = some (.int .i64 u.tm.un) ∧ W'.cell? ⟨g, 5, none⟩ = some (.int .i64 u.tm.qu) ∧ W'.cell? ⟨g, 6, none⟩ = some (.int .i64 u.tm.qt) ∧ W'.cell? ⟨g, 7, none⟩ = some (.int .i64 u.tm.wi)
    )
      ((refine KS.out _ ?_; repeat (first | (with_reducible assumption) | (with_reducible exact Below.refl _ _) | (with_reducible refine bk_drew ?_) | (with_reducible refine bk_alloc ?_ _))))
      (first
        | (go_at_call 32
           (refine (W1.out _ ?_).mono ?_
            · (repeat (first | (with_reducible assumption) | (with_reducible exact Below.refl _ _) | (with_reducible refine bk_drew ?_) | (with_reducible refine bk_alloc ?_ _)))
            rintro e v1 ⟨rfl, hv1⟩))
        | (go_at_call 33
           (refine (W2.out _ ?_).mono ?_
            · (repeat (first | (with_reducible assumption) | (with_reducible exact Below.refl _ _) | (with_reducible refine bk_drew ?_) | (with_reducible refine bk_alloc ?_ _)))
            rintro e v2 ⟨rfl, hv2⟩))
        | (go_at_call 35
           (refine (W3.out _ ?_).mono ?_
            · (repeat (first | (with_reducible assumption) | (with_reducible exact Below.refl _ _) | (with_reducible refine bk_drew ?_) | (with_reducible refine bk_alloc ?_ _)))
            rintro e v3 ⟨A3, c3, rfl, hr3, hv3⟩))
        | (go_at_call 34
           (refine (W6.out _ _ _ ?_ ?_).mono ?_
            · (repeat (first | (with_reducible assumption) | (with_reducible exact Below.refl _ _) | (with_reducible refine bk_drew ?_) | (with_reducible refine bk_alloc ?_ _)))
            · assumption
            rintro e v6 ⟨rfl, hv6⟩))
        | (go_at_call 21
           (refine (W4.out _ ?_).mono ?_
            · (repeat (first | (with_reducible assumption) | (with_reducible exact Below.refl _ _) | (with_reducible refine bk_drew ?_) | (with_reducible refine bk_alloc ?_ _)))
            rintro e v4 ⟨rfl, hv4⟩))
        | (go_at_call 36
           (refine (W5.out _ ?_).mono ?_
            · (repeat (first | (with_reducible assumption) | (with_reducible exact Below.refl _ _) | (with_reducible refine bk_drew ?_) | (with_reducible refine bk_alloc ?_ _)))
            rintro e v5 ⟨rfl, hv5⟩)))
    all_goals (go_wp2_with fail; go_split_ands; go_meet; exact ⟨rfl, Lib.hid (by assumption)⟩)
  case rest =>
    obtain ⟨rfl, hbx⟩ := hcut
    have B1 := Lib.hid (B0.out.trans (hbx.out.mono B0.out.size))
    have HS1 := Lib.hid (own_go HS.out hbx.out)
    clear hbx KS W1 W2 W3 W4 W5 W6 RS LL B0 HS
    have MM : Hid (0 < l.length → ∃ gS, S = some ⟨gS, 0, none⟩ ∧ Y.heap.size ≤ gS ∧ MRow wc gS l.length 3 .i64) := Lib.hid (fun h => by obtain ⟨gS, h1, h2, _, h3⟩ := MRow.ofInts HS1.out h; exact ⟨gS, h1, h2, h3⟩)
    clear HS1
    go_wp2
    go_loopw [9] (fun i wr => ∃ k : Nat, k ≤ l.length ∧ i = .int .i64 (k : Int) ∧ Hid (Below Y.heap.size Y wr) ∧ Hid (0 < l.length → ∃ gS, S = some ⟨gS, 0, none⟩ ∧ Y.heap.size ≤ gS ∧ MRow wr gS l.length 3 .i64))
      (fun i _ => l.length - (intOf i).toNat)
    case atStart => exact ⟨0, Nat.zero_le _, rfl, B1, MM⟩
    case round =>
      clear MM B1
      obtain ⟨k, hk, rfl, B1, MM⟩ := hrel
      by_cases hlt : k < l.length
      · obtain ⟨gS, hS, hgS, hM⟩ := MM.out (by omega)
        obtain ⟨z, c0, f0⟩ := hM.get hlt
        have HM := Lib.hid hM
        have HS := Lib.hid hS
        have k0 : (0 : Int) ≤ (k : Int) := by omega
        have k1 : (k : Int) < (l.length : Int) := by omega
        have HC : Hid (∀ v : Int, MRow (wr.setCell ((⟨gS, 0, none⟩ : Addr).add k) (.int .i64 v)) gS l.length 3 .i64 ∧ Below Y.heap.size Y (wr.setCell ((⟨gS, 0, none⟩ : Addr).add k) (.int .i64 v))) := Lib.hid (fun v => ⟨HM.out.set v, below_set B1.out hgS _⟩)
        rw [hS]
        clear hM hS
        generalize ha : (⟨gS, 0, none⟩ : Addr) = ad at c0 f0 HC ⊢
        have HA := Lib.hid ha
        clear ha
        go_wp2
        go_roundw
        case rel => exact ⟨k + 1, by omega, by go_num, Lib.hid (HC.out _).2, Lib.hid (fun _ => ⟨gS, by rw [HA.out], hgS, (HC.out _).1⟩)⟩
        case measure => simp [intOf]; omega
      · have hkn : k = l.length := by omega
        subst hkn
        have KU := Lib.hid (L0.out.ku.below B1.out L0.out.ku.lt)
        have KM := Lib.hid (L0.out.km.below B1.out L0.out.km.lt)
        have BL : Hid (Below w.heap.size w wr) := Lib.hid (L0.out.bel.trans (B1.out.mono L0.out.bel.size))
        have UI := Lib.hid (L0.out.ui.go B1.out)
        clear MM B1 hlt hk
        have uc0 := KU.out.cellv 0 (v := .slice u.hA u.hn u.hc) rfl
        have uc1 := KU.out.cellv 1 (v := .slice u.pA u.pn u.pc) rfl
        have uc2 := KU.out.cellv 2 (v := .slice u.dA u.dn u.dc) rfl
        have uc3 := KU.out.cellv 3 (v := .int .i64 u.tm.lo) rfl
        have uc4 := KU.out.cellv 4 (v := .int .i64 u.tm.un) rfl
        have uc5 := KU.out.cellv 5 (v := .int .i64 u.tm.qu) rfl
        have uc6 := KU.out.cellv 6 (v := .int .i64 u.tm.qt) rfl
        have uc7 := KU.out.cellv 7 (v := .int .i64 u.tm.wi) rfl
        have mc0 := KM.out.cellv 0 (v := .slice m.hA m.hn m.hc) rfl
        have mc1 := KM.out.cellv 1 (v := .slice m.pA m.pn m.pc) rfl
        have mc2 := KM.out.cellv 2 (v := .slice m.dA m.dn m.dc) rfl
        have mc3 := KM.out.cellv 3 (v := .int .i64 m.tm.lo) rfl
        have mc4 := KM.out.cellv 4 (v := .int .i64 m.tm.un) rfl
        have mc5 := KM.out.cellv 5 (v := .int .i64 m.tm.qu) rfl
        have mc6 := KM.out.cellv 6 (v := .int .i64 m.tm.qt) rfl
        have mc7 := KM.out.cellv 7 (v := .int .i64 m.tm.wi) rfl
        go_wp2_with fail
        refine (refSameTeam_any u m wr UI.out (MI.out.go BL.out)).mono ?_
        rintro e x ⟨rfl, hb⟩
        have BL2 := Lib.hid (BL.out.trans (hb.mono BL.out.size))
        clear uc0 uc1 uc2 uc3 uc4 uc5 uc6 uc7
        clear mc0 mc1 mc2 mc3 mc4 mc5 mc6 mc7
        clear hb
        go_wp2
        go_ret
        exact ⟨by rw [decide_eq_true HE.out]; rfl, BL2.out⟩
end Go.Proofs.Ytcbghchciplfcaa.configTeams
