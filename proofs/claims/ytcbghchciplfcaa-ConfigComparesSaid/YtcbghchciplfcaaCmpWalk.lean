/-
  CONFIGCOMPARES: the walk.
-/
import Derived.Test.YtcbghchciplfcaaCfgTwin2
import Derived.Test.YtcbghchciplfcaaCfgSame2
import Derived.Deep.RegionHeld3
import Derived.Sort.AtCall
namespace Go.Proofs.Ytcbghchciplfcaa.configCompares
set_option linter.unusedVariables false
set_option linter.unusedSimpArgs false
set_option maxRecDepth 100000
open Go.RowKit

set_option maxHeartbeats 6400000 in
theorem configCompares_walk (c d : Cm) (w : World) (hc : c.In w w.heap.size) (hd : d.In w w.heap.size) :
    Calls Try.prog 7 #[c.val, d.val] w fun e w' => e = .returned (.bool true) ∧ Below w.heap.size w w' := by
  have CB := Lib.hid (cbox2 w c d)
  obtain ⟨R, hR⟩ : ∃ R, R = decide (c.cf = d.cf) := ⟨_, rfl⟩
  have hR2 : decide (d.cf = c.cf) = R := by rw [hR]; exact decide_eq_decide.2 eq_comm
  have V1 := Lib.hid (fun W (hb : Below w.heap.size w W) => cfgSame_any c d W (hc.go hb) (hd.go hb))
  have V2 := Lib.hid (fun W (hb : Below w.heap.size w W) => refSame_any c d W (hc.go hb) (hd.go hb))
  have V3 := Lib.hid (fun W (hb : Below w.heap.size w W) => twinCfg_any c W (hc.go hb))
  have V5 := Lib.hid (fun W (hb : Below w.heap.size w W) => cfgSame_any d c W (hd.go hb) (hc.go hb))
  have V4 : Hid (∀ (u : Cm) W (hb : Below w.heap.size w W) (hu : Hid (u.cf = c.cf ∧ u.In W W.heap.size)), Calls Try.prog 45 #[c.val, u.val] W fun e w' => e = .returned (.bool true) ∧ Below W.heap.size W w') :=
    Lib.hid (fun u W hb hu => by
      have := cfgSame_any c u W (hc.go hb) hu.out.2
      rwa [decide_eq_true hu.out.1.symm] at this)
  rw [← hR] at V1 V2
  rw [hR2] at V5
  clear hR hR2 hc hd
  go_enter Try.func7, Try.ntmps7
  go_upto_region 1 with fail
  generalize (w.alloc _).alloc _ = X at CB ⊢
  have BX := Lib.hid CB.out.bel
  have KS : Hid (∀ W', Below X.heap.size X W' → Below X.heap.size X W' ∧ ( W'.cell? ⟨w.heap.size, 0, none⟩ = some (.int .i64 c.a) ∧ W'.cell? ⟨w.heap.size, 1, none⟩ = some (.int .i64 c.b) ∧ W'.cell? ⟨w.heap.size, 2, none⟩ = some (.slice c.fA c.fn c.fc) ∧ W'.cell? ⟨w.heap.size, 3, none⟩ = some (.slice c.sA c.sn c.sc) ∧ W'.cell? ⟨w.heap.size, 4, none⟩ = some (.slice c.tA c.tn c.tc) ∧ W'.cell? ⟨w.heap.size, 5, none⟩ = some (.int .u64 (c.st : Int)) ∧ W'.cell? ⟨w.heap.size + 1, 0, none⟩ = some (.int .i64 d.a) ∧ W'.cell? ⟨w.heap.size + 1, 1, none⟩ = some (.int .i64 d.b) ∧ W'.cell? ⟨w.heap.size + 1, 2, none⟩ = some (.slice d.fA d.fn d.fc) ∧ W'.cell? ⟨w.heap.size + 1, 3, none⟩ = some (.slice d.sA d.sn d.sc) ∧ W'.cell? ⟨w.heap.size + 1, 4, none⟩ = some (.slice d.tA d.tn d.tc) ∧ W'.cell? ⟨w.heap.size + 1, 5, none⟩ = some (.int .u64 (d.st : Int))  )) := Lib.hid (fun W' hb => by
    have H := CB.out.next hb
    exact ⟨hb, H.kf.cellv 0 rfl, H.kf.cellv 1 rfl, H.kf.cellv 2 rfl, H.kf.cellv 3 rfl, H.kf.cellv 4 rfl, H.kf.cellv 5 rfl, H.kg.cellv 0 rfl, H.kg.cellv 1 rfl, H.kg.cellv 2 rfl, H.kg.cellv 3 rfl, H.kg.cellv 4 rfl, H.kg.cellv 5 rfl⟩)
  have W1 := Lib.hid (fun W (hb : Below X.heap.size X W) => (V1.out W (BX.out.trans (hb.mono BX.out.size))).mono (R' := fun e w' => e = .returned (.bool R) ∧ Below X.heap.size X w') fun _ _ h => ⟨h.1, hb.trans (h.2.mono hb.size)⟩)
  have W2 := Lib.hid (fun W (hb : Below X.heap.size X W) => (V2.out W (BX.out.trans (hb.mono BX.out.size))).mono (R' := fun e w' => e = .returned (.bool R) ∧ Below X.heap.size X w') fun _ _ h => ⟨h.1, hb.trans (h.2.mono hb.size)⟩)
  have W5 := Lib.hid (fun W (hb : Below X.heap.size X W) => (V5.out W (BX.out.trans (hb.mono BX.out.size))).mono (R' := fun e w' => e = .returned (.bool R) ∧ Below X.heap.size X w') fun _ _ h => ⟨h.1, hb.trans (h.2.mono hb.size)⟩)
  have W4 := Lib.hid (fun u W (hb : Below X.heap.size X W) hu => (V4.out u W (BX.out.trans (hb.mono BX.out.size)) hu).mono (R' := fun e w' => e = .returned (.bool true) ∧ Below X.heap.size X w') fun _ _ h => ⟨h.1, hb.trans (h.2.mono hb.size)⟩)
  have W3 := Lib.hid (fun W (hb : Below X.heap.size X W) => (V3.out W (BX.out.trans (hb.mono BX.out.size))).mono (R' := fun e w' => ∃ u : Cm, e = .returned u.val ∧ Hid (u.cf = c.cf ∧ u.In w' w'.heap.size) ∧ Below X.heap.size X w') fun _ _ ⟨u, h1, h2, h3, h4⟩ => ⟨u, h1, Lib.hid ⟨h2, h3.out.In⟩, hb.trans (h4.mono hb.size)⟩)
  clear V1 V2 V3 V4 V5 CB
  have hRR : (R == R) = true := by simp
  go_cut [4] (fun s wx => s = .bool true ∧ Hid (Below X.heap.size X wx))
  case first =>
    go_region_held3 (fun W' => Below X.heap.size X W' ∧ ( W'.cell? ⟨w.heap.size, 0, none⟩ = some (.int .i64 c.a) ∧ W'.cell? ⟨w.heap.size, 1, none⟩ = some (.int .i64 c.b) ∧ W'.cell? ⟨w.heap.size, 2, none⟩ = some (.slice c.fA c.fn c.fc) ∧ W'.cell? ⟨w.heap.size, 3, none⟩ = some (.slice c.sA c.sn c.sc) ∧ W'.cell? ⟨w.heap.size, 4, none⟩ = some (.slice c.tA c.tn c.tc) ∧ W'.cell? ⟨w.heap.size, 5, none⟩ = some (.int .u64 (c.st : Int)) ∧ W'.cell? ⟨w.heap.size + 1, 0, none⟩ = some (.int .i64 d.a) ∧ W'.cell? ⟨w.heap.size + 1, 1, none⟩ = some (.int .i64 d.b) ∧ W'.cell? ⟨w.heap.size + 1, 2, none⟩ = some (.slice d.fA d.fn d.fc) ∧ W'.cell? ⟨w.heap.size + 1, 3, none⟩ = some (.slice d.sA d.sn d.sc) ∧ W'.cell? ⟨w.heap.size + 1, 4, none⟩ = some (.slice d.tA d.tn d.tc) ∧ W'.cell? ⟨w.heap.size + 1, 5, none⟩ = some (.int .u64 (d.st : Int))    ))
      ((refine KS.out _ ?_; repeat (first | (with_reducible assumption) | (with_reducible exact Below.refl _ _) | (with_reducible refine bk_drew ?_) | (with_reducible refine bk_alloc ?_ _))))
      (first
        | (go_at_call 43
           (refine (W2.out _ ?_).mono ?_
            · (repeat (first | (with_reducible assumption) | (with_reducible exact Below.refl _ _) | (with_reducible refine bk_drew ?_)))
            rintro e v2 ⟨rfl, hv2⟩))
        | (go_at_call 38
           (refine (W3.out _ ?_).mono ?_
            · (repeat (first | (with_reducible assumption) | (with_reducible exact Below.refl _ _) | (with_reducible refine bk_drew ?_)))
            rintro e v3 ⟨u, rfl, hu3, hv3⟩))
        | (go_at_call_has 45 ([Value.agg #[.int .i64 d.a, .int .i64 d.b, .slice d.fA d.fn d.fc, .slice d.sA d.sn d.sc, .slice d.tA d.tn d.tc, .int .u64 (d.st : Int)]] : List Value)
           (refine (W1.out _ ?_).mono ?_
            · (repeat (first | (with_reducible assumption) | (with_reducible exact Below.refl _ _) | (with_reducible refine bk_drew ?_)))
            rintro e v1 ⟨rfl, hv1⟩))
        | (go_at_call_has 45 ([Value.agg #[.int .i64 c.a, .int .i64 c.b, .slice c.fA c.fn c.fc, .slice c.sA c.sn c.sc, .slice c.tA c.tn c.tc, .int .u64 (c.st : Int)]] : List Value)
           (refine (W5.out _ ?_).mono ?_
            · (repeat (first | (with_reducible assumption) | (with_reducible exact Below.refl _ _) | (with_reducible refine bk_drew ?_)))
            rintro e v5 ⟨rfl, hv5⟩))
        | (go_at_call_has 45 u
           (refine (W4.out u _ ?_ ?_).mono ?_
            · (repeat (first | (with_reducible assumption) | (with_reducible exact Below.refl _ _) | (with_reducible refine bk_drew ?_)))
            · assumption
            rintro e v4 ⟨rfl, hv4⟩)))
    all_goals (go_wp2_with fail; go_split_ands; go_meet; exact ⟨rfl, Lib.hid (by assumption)⟩)
  case rest =>
    obtain ⟨rfl, hbx⟩ := hcut
    go_wp2
    go_ret
    exact ⟨rfl, BX.out.trans (hbx.out.mono BX.out.size)⟩
end Go.Proofs.Ytcbghchciplfcaa.configCompares
