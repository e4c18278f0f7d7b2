/-
  CFGVALID: hasValidSpots; the reference's ValidTeam; CheckTeam (both).
-/
import Derived.Test.YtcbghchciplfcaaCfgNum
import Derived.Test.YtcbghchciplfcaaCfgSpots
import Derived.Test.YtcbghchciplfcaaFlRef3
import Derived.Maps.OwnSet
import Derived.Maps.OwnOps
import Derived.Maps.Views
import Derived.WalkKit
import Derived.BigQuiet
import Derived.Deep.RegionHeld3
namespace Go.Proofs.Ytcbghchciplfcaa
set_option linter.unusedVariables false
set_option linter.unusedSimpArgs false
set_option maxRecDepth 100000
open Go.RowKit Go.Maps

theorem lawI : Keyed Try.prog 3 := int_keyed Try.underlying3
theorem zeroB (w : World) : (zeroValue 4).run Try.prog w = .ok (.bool false) w := by kernel_rfl
abbrev SetM (w : World) (b n : Nat) (D : DataW Unit) : Prop := w.ownsMap Try.prog 3 (plainElem Try.prog 4) b n D
theorem SetM.block {w w' : World} {b n : Nat} {D : DataW Unit} (h : SetM w b n D) (hb : w'.heap[b]? = w.heap[b]?) : SetM w' b n D := by
  obtain ⟨es, clock, h1, h2⟩ := h
  exact ⟨es, clock, hb.trans h1, h2⟩
theorem SetM.lt {w : World} {b n : Nat} {D : DataW Unit} (h : SetM w b n D) : b < w.heap.size := by
  obtain ⟨es, clock, h1, _⟩ := h
  exact (Array.getElem?_eq_some_iff.1 h1).1
theorem plainElem_bool_inv {v : Value} {z : DataW Unit × List MemPlace} (h : plainElem Try.prog 4 v = some z) : ∃ x, v = .bool x ∧ z = (.lit (.bool x), []) := by
  unfold plainElem at h
  rw [Try.underlying4] at h
  cases v <;> simp at h
  obtain rfl := h
  exact ⟨_, rfl, rfl⟩
theorem SetM.look {w : World} {b n : Nat} {D : DataW Unit} (h : SetM w b n D) {x : Int} (hw : (Lit.int .i64 x).wf = true) {c : Bool} (hc : D.atKey (.int .i64 x) (.lit (.bool false)) = .lit (.bool c)) :
    (Instr.lookup 141 (.map (some b)) (.int .i64 x) false).run Try.prog w = .ok (.bool c) w := by
  obtain ⟨v, ps, hrun, hv⟩ := World.ownsMap.lookup h lawI Try.underlying141 (zeroB w) (plainElem_bool Try.underlying4 false) (keyOf_int_mk Try.underlying3 hw)
  obtain ⟨y, rfl, hy⟩ := plainElem_bool_inv hv
  simp only [Prod.mk.injEq] at hy
  rw [hc] at hy
  have := hy.1
  injection this with this
  injection this with this
  rw [hrun, this]
/-- what is known of the first k spots. -/
def spotOk (cl : List UInt8) (t p : Int) : Bool := decide (0 ≤ p ∧ p < (cl.length : Int)) && ownerS (cl.getD p.toNat 0) == t
theorem spotsB_eq (cl : List UInt8) (t : Int) (l : List Int) : spotsB cl t l = (l.all (spotOk cl t) && decide l.Nodup) := rfl
theorem spots_bad {cl : List UInt8} {t : Int} {l : List Int} {k : Nat} {p : Int} (hx : l[k]? = some p) (h : spotOk cl t p = false) : spotsB cl t l = false := by
  rw [spotsB_eq, Bool.and_eq_false_iff]
  exact .inl (List.all_eq_false.2 ⟨p, List.mem_of_getElem? hx, by rw [h]; simp⟩)
theorem spots_twice {cl : List UInt8} {t : Int} {l : List Int} {k : Nat} {p : Int} (hx : l[k]? = some p) (h : p ∈ l.take k) : spotsB cl t l = false := by
  rw [spotsB_eq, Bool.and_eq_false_iff]
  refine .inr (decide_eq_false fun hn => ?_)
  have h1 := hn
  rw [← List.take_append_drop k l, List.nodup_append] at h1
  have hp : p ∈ l.drop k := by
    refine List.mem_of_getElem? (i := 0) ?_
    rw [List.getElem?_drop]
    exact hx
  exact h1.2.2 p h p hp rfl
theorem spots_yes {cl : List UInt8} {t : Int} {l : List Int} (h1 : l.all (spotOk cl t) = true) (h2 : l.Nodup) : spotsB cl t l = true := by
  rw [spotsB_eq, h1, decide_eq_true h2]; rfl
theorem nodup_snoc {l : List Int} {k : Nat} {p : Int} (hx : l[k]? = some p) (h : p ∉ l.take k) (hn : (l.take k).Nodup) : (l.take (k + 1)).Nodup := by
  rw [List.take_add_one, hx]
  refine List.nodup_append.2 ⟨hn, by simp, ?_⟩
  intro a ha b hb
  simp at hb
  subst hb
  exact fun e => h (e ▸ ha)
theorem ownS_ok {a b : Int} {l : List UInt8} (hv : floorB a b l = true) (p : Int) : (0 ≤ p ∧ p < (l.length : Int) ∧ ownS a b l p = (ownerS (l.getD p.toNat 0), 0)) ∨ (decide (0 ≤ p ∧ p < (l.length : Int)) = false ∧ ownS a b l p = (0, 2)) := by
  by_cases h : 0 ≤ p ∧ p < (l.length : Int)
  · exact .inl ⟨h.1, h.2, by unfold ownS; rw [if_pos hv, if_pos h]⟩
  · exact .inr ⟨decide_eq_false h, by unfold ownS; rw [if_pos hv, if_neg h]⟩
/-- what the loop of hasValidSpots keeps. -/
structure VW (w W0 X : World) (fv : Value) (a b : Int) (sv : Value) (n : Nat) (l : List Int) : Prop where
  kf : Blk X w.heap.size 30 #[.int .i64 a, .int .i64 b, fv]
  sp : X.ownsRow (w.heap.size + 3) 3 1 sv n (iv l)
  bel : Below w.heap.size w X
  hz : w.heap.size + 3 ≤ X.heap.size
theorem VW.next {w W0 X X' : World} {fv sv : Value} {a b : Int} {n : Nat} {l : List Int} (h : VW w W0 X fv a b sv n l) (hb : Below X.heap.size X X') : VW w W0 X' fv a b sv n l :=
  ⟨h.kf.below hb h.kf.lt, own_go h.sp hb, h.bel.trans (hb.mono h.bel.size), Nat.le_trans h.hz hb.size⟩
theorem VW.upd {w W0 X X' : World} {fv sv : Value} {a b : Int} {n : Nat} {l : List Int} (h : VW w W0 X fv a b sv n l) (hg : X.grownBy X' (some (w.heap.size + 1 + 1))) : VW w W0 X' fv a b sv n l :=
  ⟨h.kf.grown hg (by simp; omega), own_grown h.sp hg (fun g hg' e => by have := own_ge h.sp g hg'; injection e with e; omega), h.bel.trans (below_grow hg (fun g e => by injection e with e; omega) h.bel.size), Nat.le_trans h.hz hg.size⟩
set_option maxHeartbeats 3200000 in
theorem validSpots_any (a b : Int) (A : Option Addr) (n c : Nat) (cl : List UInt8) (t : Int) (m : Tm) (w : World) (hr : Reads w w.heap.size 1 A n (bv cl)) (hn : n ≤ 140737488351232) (hv : floorB a b cl = true) (hm : m.In w w.heap.size) (hs : m.hn + m.pn + m.dn ≤ 1000000) :
    Calls Try.prog 65 #[.agg #[.int .i64 a, .int .i64 b, .slice A n c], .int .i64 t, m.val] w fun e w' => e = .returned (.bool (spotsB cl t m.tm.spots)) ∧ Below w.heap.size w w' := by
  have hmm := @run_makeMap Try.prog
  have SP := Lib.hid (fun W (hb : Below w.heap.size w W) => spots_any m W (hm.go hb) (by omega))
  have OW := Lib.hid (fun W (hb : Below w.heap.size w W) p => owner_any a b A n c cl p W ((hr.below hb).more hb.size) hn)
  have hll : m.tm.spots.length ≤ 1000000 := by rw [sp_len hm]; exact hs
  obtain ⟨l, hl⟩ : ∃ l, l = m.tm.spots := ⟨_, rfl⟩
  rw [← hl] at SP hll ⊢
  have HV := Lib.hid (fun p => ownS_ok hv p)
  have hlen := floorB_len hv
  have KF : Hid (∀ X, X = ((w.alloc (.cells #[.int .i64 a, .int .i64 b, .slice A n c] 30)).alloc (.cells m.arr 24)).alloc (.map #[] 0) → Blk X w.heap.size 30 #[.int .i64 a, .int .i64 b, .slice A n c] ∧ Blk X (w.heap.size + 1) 24 m.arr ∧ Below w.heap.size w X ∧ w.heap.size + 3 ≤ X.heap.size ∧ SetM X (w.heap.size + 1 + 1) 0 (.map [])) := Lib.hid (fun X e => by
    subst e
    have h1 := Blk.new w 30 #[.int .i64 a, .int .i64 b, .slice A n c]
    have h2 := Blk.new (w.alloc (.cells #[.int .i64 a, .int .i64 b, .slice A n c] 30)) 24 m.arr
    have h3 := World.ownsMap_made (H := Unit) ((w.alloc (.cells #[.int .i64 a, .int .i64 b, .slice A n c] 30)).alloc (.cells m.arr 24)) Try.prog 3 (plainElem Try.prog 4)
    simp at h2 h3
    exact ⟨(h1.alloc _).alloc _, h2.alloc _, bk_alloc (bk_alloc (bk_alloc (Below.refl _ _) _) _) _, by simp, h3⟩)
  clear hl hr hv hs hm
  go_enter Try.func65, Try.ntmps65
  go_upto_region 2 with fail
  generalize hX : World.alloc _ _ = X0
  obtain ⟨kf, kt, hb0, hz0, hm0⟩ := KF.out X0 hX.symm
  have c0 := kt.cellv 0 (v := .slice m.hA m.hn m.hc) rfl
  have c1 := kt.cellv 1 (v := .slice m.pA m.pn m.pc) rfl
  have c2 := kt.cellv 2 (v := .slice m.dA m.dn m.dc) rfl
  have c3 := kt.cellv 3 (v := .int .i64 m.tm.lo) rfl
  have c4 := kt.cellv 4 (v := .int .i64 m.tm.un) rfl
  have c5 := kt.cellv 5 (v := .int .i64 m.tm.qu) rfl
  have c6 := kt.cellv 6 (v := .int .i64 m.tm.qt) rfl
  have c7 := kt.cellv 7 (v := .int .i64 m.tm.wi) rfl
  have KF1 := Lib.hid kf
  have B0 := Lib.hid hb0
  have Z0 := Lib.hid hz0
  have M0 := Lib.hid hm0
  clear KF hX kf kt hb0 hz0 hm0
  go_wp2_with fail
  refine (SP.out _ B0.out).mono ?_
  rintro e W0 ⟨S, cS, rfl, HS, hb⟩
  clear c0 c1 c2 c3 c4 c5 c6 c7
  have VV : Hid (VW w W0 W0 (.slice A n c) a b (.slice S l.length cS) l.length l) := Lib.hid ⟨KF1.out.below hb KF1.out.lt, own_more HS.out Z0.out, B0.out.trans (hb.mono B0.out.size), Nat.le_trans Z0.out hb.size⟩
  have MM : Hid (SetM W0 (w.heap.size + 1 + 1) 0 (.map [])) := Lib.hid (M0.out.block (hb.block _ (by have := Z0.out; omega)))
  clear hb KF1 B0 Z0 M0 HS SP
  go_wp2
  go_loopw [16] (fun i wr => ∃ (k : Nat) (D : DataW Unit), k ≤ l.length ∧ i = .int .i64 (k : Int) ∧ Hid (VW w W0 wr (.slice A n c) a b (.slice S l.length cS) l.length l) ∧ Hid (SetM wr (w.heap.size + 1 + 1) k D) ∧ Hid (IsMap D) ∧
      Hid (∀ x : Int, D.atKey (.int .i64 x) (.lit (.bool false)) = .lit (.bool (decide (x ∈ l.take k)))) ∧ Hid ((l.take k).all (spotOk cl t) = true ∧ (l.take k).Nodup))
    (fun i _ => l.length - (intOf i).toNat)
  case atStart => exact ⟨0, .map [], Nat.zero_le _, rfl, VV, MM, Lib.hid isMap_empty, Lib.hid (fun x => rfl), Lib.hid ⟨rfl, by simp⟩⟩
  case round =>
    obtain ⟨k, D, hk, rfl, hVW, hSM, hIM, hAK, hOK⟩ := hrel
    clear VV MM
    by_cases hlt : k < l.length
    · obtain ⟨ad, p, rfl, had, hx, hcx⟩ := ints_at (Reads.of_own hVW.out.sp) hlt
      have HX := Lib.hid hx
      clear hx had
      have k0 : (0 : Int) ≤ (k : Int) := by omega
      have k1 : (k : Int) < (l.length : Int) := by omega
      have c0 := hVW.out.kf.cellv 0 (v := .int .i64 a) rfl
      have c1 := hVW.out.kf.cellv 1 (v := .int .i64 b) rfl
      have c2 := hVW.out.kf.cellv 2 (v := .slice A n c) rfl
      rcases HV.out p with ⟨p0, p1, ho⟩ | ⟨hno, ho⟩
      · have CALL := Lib.hid (OW.out _ hVW.out.bel p)
        rw [ho] at CALL
        obtain ⟨q, hq⟩ : ∃ q, q = ownerS (cl.getD p.toNat 0) := ⟨_, rfl⟩
        rw [← hq] at CALL
        have P0 : decide (0 ≤ p ∧ p < (cl.length : Int)) = true := decide_eq_true ⟨p0, p1⟩
        have hwf : (Lit.int .i64 p).wf = true := WalkArith.wf_i64 (by omega)
        clear ho
        by_cases he : q = t
        · have t1 : (q != t) = false := by simpa using he
          have HSK : Hid (spotOk cl t p = true) := Lib.hid (by unfold spotOk; rw [P0, ← hq, he]; simp)
          clear he hq P0
          by_cases hin : p ∈ l.take k
          · have HAT := hAK.out p
            rw [decide_eq_true hin] at HAT
            have HIN := Lib.hid hin
            have HAT' := Lib.hid HAT
            have HWF := Lib.hid hwf
            clear hin HAT hwf
            go_wp2_with fail
            refine CALL.out.mono ?_
            rintro e x ⟨rfl, hb⟩
            replace hVW := Lib.hid (hVW.out.next hb)
            replace hSM := Lib.hid (hSM.out.block (hb.block _ hSM.out.lt))
            have hrun := hSM.out.look HWF.out HAT'.out
            clear hb c0 c1 c2
            go_wp2
            go_ret
            exact ⟨by rw [spots_twice HX.out HIN.out]; rfl, hVW.out.bel⟩
          · have HAT := hAK.out p
            rw [decide_eq_false hin] at HAT
            have HIN := Lib.hid hin
            have HAT' := Lib.hid HAT
            have HWF := Lib.hid hwf
            clear hin HAT hwf
            go_wp2_with fail
            refine CALL.out.mono ?_
            rintro e x ⟨rfl, hb⟩
            replace hVW := Lib.hid (hVW.out.next hb)
            replace hSM := Lib.hid (hSM.out.block (hb.block _ hSM.out.lt))
            have hrun := hSM.out.look HWF.out HAT'.out
            clear hb c0 c1 c2
            go_wp2_with (at_mapUpdate; refine wpList_mapUpdate_own _ rfl _ _ _ 141 rfl 3 4 lawI Try.underlying141 _ (w.heap.size + 1 + 1) k _ rfl hSM.out (by unfold maxLen; omega) _ _ _ rfl rfl (keyOf_int_mk Try.underlying3 HWF.out) _ [] (plainElem_bool Try.underlying4 true) ?_; intro w1 hown1 hgrow1; have HW1 := Lib.hid hown1; have HG1 := Lib.hid hgrow1; clear hown1 hgrow1)
            go_roundw
            case rel =>
              refine ⟨k + 1, _, by omega, by go_num, Lib.hid (hVW.out.upd HG1.out), HW1, Lib.hid (hIM.out.put _ _), Lib.hid (fun y => ?_), Lib.hid ⟨?_, nodup_snoc HX.out HIN.out hOK.out.2⟩⟩
              · by_cases hy : y = p
                · subst hy
                  rw [atKey_put_same hIM.out (by exact trivial), List.take_add_one, HX.out]
                  simp
                · rw [atKey_put_other (by intro h; injection h with _ h; exact hy h), hAK.out y, List.take_add_one, HX.out]
                  simp [hy]
              · rw [List.take_add_one, HX.out, List.all_append, hOK.out.1]
                simp [HSK.out]
            case measure => simp [intOf]; omega
        · have t1 : (q != t) = true := by simpa using he
          have HSK : Hid (spotOk cl t p = false) := Lib.hid (by unfold spotOk; rw [← hq]; simp [he])
          clear he hq P0
          go_wp2_with fail
          refine CALL.out.mono ?_
          rintro e x ⟨rfl, hb⟩
          replace hVW := Lib.hid (hVW.out.next hb)
          clear hb c0 c1 c2
          go_wp2
          go_ret
          exact ⟨by rw [spots_bad HX.out HSK.out]; rfl, hVW.out.bel⟩
      · have CALL := Lib.hid (OW.out _ hVW.out.bel p)
        rw [ho] at CALL
        have HSK : Hid (spotOk cl t p = false) := Lib.hid (by unfold spotOk; rw [hno]; rfl)
        clear ho hno
        go_wp2_with fail
        refine CALL.out.mono ?_
        rintro e x ⟨rfl, hb⟩
        replace hVW := Lib.hid (hVW.out.next hb)
        clear hb c0 c1 c2
        go_wp2
        go_ret
        exact ⟨by rw [spots_bad HX.out HSK.out]; rfl, hVW.out.bel⟩
    · have hkn : k = l.length := by omega
      subst hkn
      go_wp2
      go_ret
      have hfin := hOK.out
      rw [List.take_length] at hfin
      exact ⟨by rw [spots_yes hfin.1 hfin.2]; rfl, hVW.out.bel⟩
/-- what the loops of ValidTeam keep. -/
structure RW_ (w X : World) (fv : Value) (a b : Int) (sv : Value) (n : Nat) (l : List Int) : Prop where
  kf : Blk X w.heap.size 30 #[.int .i64 a, .int .i64 b, fv]
  sp : X.ownsRow (w.heap.size + 2) 3 1 sv n (iv l)
  bel : Below w.heap.size w X
theorem RW_.next {w X X' : World} {fv sv : Value} {a b : Int} {n : Nat} {l : List Int} (h : RW_ w X fv a b sv n l) (hb : Below X.heap.size X X') : RW_ w X' fv a b sv n l :=
  ⟨h.kf.below hb h.kf.lt, own_go h.sp hb, h.bel.trans (hb.mono h.bel.size)⟩
theorem not_mem_take {l : List Int} {j : Nat} {p x : Int} (hx : l[j]? = some x) (hne : x ≠ p) (h : p ∉ l.take j) : p ∉ l.take (j + 1) := by
  rw [List.take_add_one, hx]
  simp [h]
  exact fun e => hne e.symm
theorem mem_take_of {l : List Int} {j k : Nat} {p : Int} (hx : l[j]? = some p) (h : j < k) : p ∈ l.take k := by
  refine List.mem_of_getElem? (i := j) ?_
  rw [List.getElem?_take, if_pos h]
  exact hx
set_option maxHeartbeats 3200000 in
theorem validTeam_any (a b : Int) (A : Option Addr) (n c : Nat) (cl : List UInt8) (t : Int) (m : Tm) (w : World) (hr : Reads w w.heap.size 1 A n (bv cl)) (hn : n ≤ 140737488351232) (hv : floorB a b cl = true) (ht : 0 ≤ t ∧ t < 3) (hm : m.In w w.heap.size) :
    Calls Try.prog 81 #[.agg #[.int .i64 a, .int .i64 b, .slice A n c], .int .i64 t, m.val] w fun e w' => e = .returned (.bool (m.tm.validB cl t)) ∧ Below w.heap.size w w' := by
  have KF : Hid (∀ X, X = (w.alloc (.cells #[.int .i64 a, .int .i64 b, .slice A n c] 30)).alloc (.cells m.arr 24) → Blk X w.heap.size 30 #[.int .i64 a, .int .i64 b, .slice A n c] ∧ Blk X (w.heap.size + 1) 24 m.arr ∧ Below w.heap.size w X ∧ w.heap.size + 2 ≤ X.heap.size) := Lib.hid (fun X e => by
    subst e
    have h1 := Blk.new w 30 #[.int .i64 a, .int .i64 b, .slice A n c]
    have h2 := Blk.new (w.alloc (.cells #[.int .i64 a, .int .i64 b, .slice A n c] 30)) 24 m.arr
    simp at h2
    exact ⟨h1.alloc _, h2, bk_alloc (bk_alloc (Below.refl _ _) _) _, by simp⟩)
  have NU := Lib.hid (fun W (hb : Below w.heap.size w W) => refNumbers_any m W (hm.go hb))
  have EV : Hid (m.tm.validB cl t = (m.tm.numB && spotsB cl t m.tm.spots)) := Lib.hid rfl
  have hlen : cl.length = n := by have := hr.1; simpa using this
  have hl9 := floorB_len hv
  cases hnum : m.tm.numB
  · rw [hnum] at NU EV
    rw [EV.out]
    clear EV hr hm hv hnum
    go_enter Try.func81, Try.ntmps81
    go_upto_region 1 with fail
    generalize hX : World.alloc _ _ = X0
    obtain ⟨kf, kt, hb0, hz0⟩ := KF.out X0 hX.symm
    have c0 := kt.cellv 0 (v := .slice m.hA m.hn m.hc) rfl
    have c1 := kt.cellv 1 (v := .slice m.pA m.pn m.pc) rfl
    have c2 := kt.cellv 2 (v := .slice m.dA m.dn m.dc) rfl
    have c3 := kt.cellv 3 (v := .int .i64 m.tm.lo) rfl
    have c4 := kt.cellv 4 (v := .int .i64 m.tm.un) rfl
    have c5 := kt.cellv 5 (v := .int .i64 m.tm.qu) rfl
    have c6 := kt.cellv 6 (v := .int .i64 m.tm.qt) rfl
    have c7 := kt.cellv 7 (v := .int .i64 m.tm.wi) rfl
    have B0 := Lib.hid hb0
    clear KF hX kf kt hb0 hz0
    go_wp2_with fail
    refine (NU.out _ B0.out).mono ?_
    rintro e x ⟨rfl, hb⟩
    have HB := Lib.hid (B0.out.trans (hb.mono B0.out.size))
    clear hb c0 c1 c2 c3 c4 c5 c6 c7
    go_wp2
    go_ret
    exact ⟨rfl, HB.out⟩
  · rw [hnum] at NU EV
    rw [EV.out, Bool.true_and]
    have hs : m.hn + m.pn + m.dn ≤ 9 := by
      have h1 := hm.h.len; have h2 := hm.p.len; have h3 := hm.d.len
      unfold Team.numB btw at hnum
      simp at hnum
      omega
    have SP := Lib.hid (fun W (hb : Below w.heap.size w W) => refSpots_any m W (hm.go hb) (by omega))
    have OW := Lib.hid (fun W (hb : Below w.heap.size w W) (k : Nat) (y : UInt8) (hy : cl[k]? = some y) => refOwn_any a b A n c cl t k y W ((hr.below hb).more hb.size) hn hy ht.1 ht.2)
    have hll : m.tm.spots.length ≤ 9 := by rw [sp_len hm]; exact hs
    obtain ⟨l, hl⟩ : ∃ l, l = m.tm.spots := ⟨_, rfl⟩
    rw [← hl] at SP hll ⊢
    have HLN := Lib.hid hlen
    have n64 : n ≤ 64 := by omega
    clear hl hr hv hs hnum EV ht hlen hl9
    go_enter Try.func81, Try.ntmps81
    go_upto_region 1 with fail
    generalize hX : World.alloc _ _ = X0
    obtain ⟨kf, kt, hb0, hz0⟩ := KF.out X0 hX.symm
    have KF1 := Lib.hid kf
    have KT1 := Lib.hid kt
    have B0 := Lib.hid hb0
    have Z0 := Lib.hid hz0
    clear KF hX kf kt hb0 hz0
    have c0 := KT1.out.cellv 0 (v := .slice m.hA m.hn m.hc) rfl
    have c1 := KT1.out.cellv 1 (v := .slice m.pA m.pn m.pc) rfl
    have c2 := KT1.out.cellv 2 (v := .slice m.dA m.dn m.dc) rfl
    have c3 := KT1.out.cellv 3 (v := .int .i64 m.tm.lo) rfl
    have c4 := KT1.out.cellv 4 (v := .int .i64 m.tm.un) rfl
    have c5 := KT1.out.cellv 5 (v := .int .i64 m.tm.qu) rfl
    have c6 := KT1.out.cellv 6 (v := .int .i64 m.tm.qt) rfl
    have c7 := KT1.out.cellv 7 (v := .int .i64 m.tm.wi) rfl
    go_wp2_with fail
    refine (NU.out _ B0.out).mono ?_
    rintro e x ⟨rfl, hb⟩
    have B1 := Lib.hid (B0.out.trans (hb.mono B0.out.size))
    have Z1 := Lib.hid (Nat.le_trans Z0.out hb.size)
    have KF2 := Lib.hid (KF1.out.below hb KF1.out.lt)
    have KT2 := Lib.hid (KT1.out.below hb KT1.out.lt)
    clear hb c0 c1 c2 c3 c4 c5 c6 c7 KF1 KT1 B0 Z0
    have c0 := KT2.out.cellv 0 (v := .slice m.hA m.hn m.hc) rfl
    have c1 := KT2.out.cellv 1 (v := .slice m.pA m.pn m.pc) rfl
    have c2 := KT2.out.cellv 2 (v := .slice m.dA m.dn m.dc) rfl
    have c3 := KT2.out.cellv 3 (v := .int .i64 m.tm.lo) rfl
    have c4 := KT2.out.cellv 4 (v := .int .i64 m.tm.un) rfl
    have c5 := KT2.out.cellv 5 (v := .int .i64 m.tm.qu) rfl
    have c6 := KT2.out.cellv 6 (v := .int .i64 m.tm.qt) rfl
    have c7 := KT2.out.cellv 7 (v := .int .i64 m.tm.wi) rfl
    go_wp2_with fail
    refine (SP.out _ B1.out).mono ?_
    rintro e W0 ⟨S, cS, rfl, HS, hb⟩
    clear c0 c1 c2 c3 c4 c5 c6 c7
    have VV : Hid (RW_ w W0 (.slice A n c) a b (.slice S l.length cS) l.length l) := Lib.hid ⟨KF2.out.below hb KF2.out.lt, own_more HS.out Z1.out, B1.out.trans (hb.mono B1.out.size)⟩
    clear hb KF2 KT2 B1 Z1 HS SP NU
    go_wp2
    go_loopw [8] (fun i wr => ∃ k : Nat, k ≤ l.length ∧ i = .int .i64 (k : Int) ∧ Hid (RW_ w wr (.slice A n c) a b (.slice S l.length cS) l.length l) ∧ Hid ((l.take k).all (spotOk cl t) = true ∧ (l.take k).Nodup))
      (fun i _ => l.length - (intOf i).toNat)
    case atStart => exact ⟨0, Nat.zero_le _, rfl, VV, Lib.hid ⟨rfl, by simp⟩⟩
    case round =>
      obtain ⟨k, hk, rfl, hVW, hOK⟩ := hrel
      clear VV
      by_cases hlt : k < l.length
      · obtain ⟨ad, p, rfl, had, hx, hcx⟩ := ints_at (Reads.of_own hVW.out.sp) hlt
        have HX := Lib.hid hx
        clear hx
        have k0 : (0 : Int) ≤ (k : Int) := by omega
        have k1 : (k : Int) < (l.length : Int) := by omega
        have c0 := hVW.out.kf.cellv 0 (v := .int .i64 a) rfl
        have c1 := hVW.out.kf.cellv 1 (v := .int .i64 b) rfl
        have c2 := hVW.out.kf.cellv 2 (v := .slice A n c) rfl
        by_cases p0 : p < 0
        · have t1 : decide (p < 0) = true := by simpa using p0
          have HSK : Hid (spotOk cl t p = false) := Lib.hid (by unfold spotOk; rw [decide_eq_false (by omega)]; rfl)
          clear p0 had
          go_wp2
          go_quiet (fail)
          go_wp2
          go_ret
          exact ⟨by rw [spots_bad HX.out HSK.out]; rfl, (hVW.out.next (below_drewN (Below.refl _ _) _)).bel⟩
        · have t1 : decide (p < 0) = false := by simpa using p0
          by_cases p1 : p ≥ (n : Int)
          · have t2 : decide (p ≥ (n : Int)) = true := by simpa using p1
            have t3 : decide ((n : Int) ≤ p) = true := by simpa using p1
            have HSK : Hid (spotOk cl t p = false) := Lib.hid (by unfold spotOk; rw [HLN.out, decide_eq_false (by omega)]; rfl)
            clear p0 p1 had
            go_wp2
            go_quiet (fail)
            go_wp2
            go_ret
            exact ⟨by rw [spots_bad HX.out HSK.out]; rfl, (hVW.out.next (below_drewN (Below.refl _ _) _)).bel⟩
          · have t2 : decide (p ≥ (n : Int)) = false := by simpa using p1
            have t3 : decide ((n : Int) ≤ p) = false := by simpa using p1
            obtain ⟨z, hzp⟩ := Int.eq_ofNat_of_zero_le (show 0 ≤ p by omega)
            have hz : z < cl.length := by have := HLN.out; omega
            have hy := List.getElem?_eq_getElem hz
            obtain ⟨y, hy'⟩ : ∃ y, y = cl[z] := ⟨_, rfl⟩
            rw [← hy'] at hy
            clear hy'
            have HSK : Hid (spotOk cl t (z : Int) = decide (ownerS y = t)) := Lib.hid (by
              unfold spotOk
              rw [decide_eq_true ⟨by omega, by omega⟩, Bool.true_and, Int.toNat_natCast, List.getD_eq_getElem?_getD, hy]
              rw [Bool.eq_iff_iff]; simp)
            have CALL := Lib.hid (fun W (hb : Below wr.heap.size wr W) => (OW.out W (hVW.out.bel.trans (hb.mono hVW.out.bel.size)) z y hy).mono (R' := fun e w' => e = .returned (.bool (decide (ownerS y = t))) ∧ Below wr.heap.size wr w') fun _ _ h => ⟨h.1, hb.trans (h.2.mono hb.size)⟩)
            obtain ⟨R, hR⟩ : ∃ R, R = decide (ownerS y = t) := ⟨_, rfl⟩
            rw [← hR] at CALL HSK
            rw [← hzp] at CALL HSK
            clear hR hy hz p0 p1 hzp
            have KS : Hid (∀ W', Below wr.heap.size wr W' → Below wr.heap.size wr W' ∧ W'.cell? ⟨w.heap.size, 0, none⟩ = some (.int .i64 a) ∧ W'.cell? ⟨w.heap.size, 1, none⟩ = some (.int .i64 b) ∧ W'.cell? ⟨w.heap.size, 2, none⟩ = some (.slice A n c) ∧ W'.cell? (ad.add k) = some (.int .i64 p)) :=
              Lib.hid (fun W' hb => ⟨hb, (hVW.out.next hb).kf.cellv 0 rfl, (hVW.out.next hb).kf.cellv 1 rfl, (hVW.out.next hb).kf.cellv 2 rfl, (hb.cell (by rw [block_of_add]; exact had)).trans hcx⟩)
            go_wp2
            go_cut [45] (fun s wx => s = .bool (!R) ∧ Hid (Below wr.heap.size wr wx))
            case first =>
              go_region_held3 (fun W' => Below wr.heap.size wr W' ∧ W'.cell? ⟨w.heap.size, 0, none⟩ = some (.int .i64 a) ∧ W'.cell? ⟨w.heap.size, 1, none⟩ = some (.int .i64 b) ∧ W'.cell? ⟨w.heap.size, 2, none⟩ = some (.slice A n c) ∧ W'.cell? (ad.add k) = some (.int .i64 p))
                ((refine KS.out _ ?_; repeat (first | (with_reducible assumption) | (with_reducible exact Below.refl _ _) | (with_reducible refine bk_drew ?_) | (with_reducible refine bk_alloc ?_ _))))
                (first
                  | (go_at_call 101
                     (refine (CALL.out _ ?_).mono ?_
                      · (repeat (first | (with_reducible assumption) | (with_reducible exact Below.refl _ _) | (with_reducible refine bk_drew ?_) | (with_reducible refine bk_alloc ?_ _)))
                      rintro e v1 ⟨rfl, hv1⟩)))
              all_goals (go_wp2_with fail; go_split_ands; go_meet; exact ⟨rfl, Lib.hid (by assumption)⟩)
            case rest =>
              obtain ⟨rfl, hbx⟩ := hcut
              replace hVW := Lib.hid (hVW.out.next hbx.out)
              clear hbx KS CALL c0 c1 c2 hcx had
              cases R
              · go_wp2
                go_ret
                exact ⟨by rw [spots_bad HX.out HSK.out]; rfl, hVW.out.bel⟩
              · go_wp2
                go_loopw [9] (fun i wr => ∃ j : Nat, j ≤ k ∧ i = .int .i64 (j : Int) ∧ Hid (RW_ w wr (.slice A n c) a b (.slice (some ad) l.length cS) l.length l) ∧ Hid (p ∉ l.take j))
                  (fun i _ => k - (intOf i).toNat)
                case atStart => exact ⟨0, Nat.zero_le _, rfl, hVW, Lib.hid (by simp)⟩
                case round =>
                  clear hVW
                  obtain ⟨j, hj, rfl, hVW, hNI⟩ := hrel
                  by_cases hlj : j < k
                  · obtain ⟨ad', x, ead, had, hx, hcx⟩ := ints_at (Reads.of_own hVW.out.sp) (show j < l.length by omega)
                    injection ead with ead
                    subst ead
                    obtain ⟨ad', p', ead, _, hx', hcx'⟩ := ints_at (Reads.of_own hVW.out.sp) (show k < l.length by omega)
                    injection ead with ead
                    subst ead
                    obtain rfl : p' = p := by have := HX.out; rw [hx'] at this; injection this
                    have HJ := Lib.hid hx
                    clear hx hx' had
                    have j0 : (0 : Int) ≤ (j : Int) := by omega
                    have j1 : (j : Int) < (l.length : Int) := by omega
                    have j2 : decide (j < k) = true := by simpa using hlj
                    by_cases he : x = p'
                    · subst he
                      have t1 : (x == x) = true := by simp
                      go_wp2
                      go_quiet (fail)
                      go_wp2
                      go_ret
                      exact ⟨by rw [spots_twice HX.out (mem_take_of HJ.out hlj)]; rfl, (hVW.out.next (below_drewN (Below.refl _ _) _)).bel⟩
                    · have t1 : (x == p') = false := by simpa using he
                      have HE := Lib.hid he
                      clear he
                      go_wp2
                      go_quiet (fail)
                      go_wp2
                      go_roundw
                      case rel => exact ⟨j + 1, by omega, by go_num, Lib.hid (hVW.out.next (below_drewN (Below.refl _ _) _)), Lib.hid (not_mem_take HJ.out HE.out hNI.out)⟩
                      case measure => simp [intOf]; omega
                  · have hjk : j = k := by omega
                    subst hjk
                    go_wp2
                    go_roundw
                    case rel =>
                      refine ⟨j + 1, by omega, by go_num, hVW, Lib.hid ⟨?_, nodup_snoc HX.out hNI.out hOK.out.2⟩⟩
                      rw [List.take_add_one, HX.out, List.all_append, hOK.out.1]
                      simp [HSK.out]
                    case measure => simp [intOf]; omega
      · have hkn : k = l.length := by omega
        subst hkn
        go_wp2
        go_ret
        have hfin := hOK.out
        rw [List.take_length] at hfin
        exact ⟨by rw [spots_yes hfin.1 hfin.2]; rfl, hVW.out.bel⟩
end Go.Proofs.Ytcbghchciplfcaa
