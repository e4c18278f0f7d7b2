/-
  CFGOWNS: belongs, ownsNothing; hasValidTeams; config.Check.
-/
import Derived.Test.YtcbghchciplfcaaCfgPres
import Derived.Deep.MidRow
namespace Go.Proofs.Ytcbghchciplfcaa
set_option linter.unusedVariables false
set_option linter.unusedSimpArgs false
set_option maxRecDepth 100000
open Go.RowKit

def belB (ts : List Team) (v : UInt8) : Bool := v.toNat == 0 || v.toNat == 255 || presB ts ((v.toNat : Int) - 1)
set_option maxHeartbeats 1600000 in
theorem belongs_any (c : Cm) (v : UInt8) (w : World) (hc : c.In w w.heap.size) :
    Calls Try.prog 124 #[c.val, .int .u8 (v.toNat : Int)] w fun e w' => e = .returned (.bool (belB c.cf.ts v)) ∧ Below w.heap.size w w' := by
  have CB := Lib.hid (cbox w c)
  have P := Lib.hid (fun W (hb : Below w.heap.size w W) => refPresent_any c ((v.toNat : Int) - 1) W (hc.go hb))
  have hv := v.toNat_lt
  obtain ⟨m, hm⟩ : ∃ m : Int, m = (v.toNat : Int) := ⟨_, rfl⟩
  have m0 : 0 ≤ m := by omega
  have m1 : m ≤ 255 := by omega
  have E : Hid (belB c.cf.ts v = (decide (m = 0) || decide (m = 255) || presB c.cf.ts (m - 1))) := Lib.hid (by
    unfold belB
    rw [hm]
    congr 2
    · rw [Bool.eq_iff_iff]; simp <;> omega
    · rw [Bool.eq_iff_iff]; simp <;> omega)
  rw [E.out]
  rw [← hm] at P ⊢
  have u1 : IntKind.i64.wrap m = m := IntWalk.i64_in _ (by omega)
  have u2 : IntKind.i64.wrap (m - 1) = m - 1 := IntWalk.i64_in _ (by omega)
  generalize presB c.cf.ts (m - 1) = R at P E ⊢
  clear hc hv hm E
  by_cases h0 : m = 0
  · subst h0
    go_enter Try.func124, Try.ntmps124
    go_wp2
    go_ret
    exact ⟨rfl, CB.out.bel⟩
  · have d0 : (m == 0) = false := by simpa using h0
    rw [decide_eq_false h0]
    by_cases h1 : m = 255
    · subst h1
      go_enter Try.func124, Try.ntmps124
      go_wp2
      go_ret
      exact ⟨rfl, CB.out.bel⟩
    · have d1 : (m == 255) = false := by simpa using h1
      rw [decide_eq_false h1]
      clear h0 h1
      go_enter Try.func124, Try.ntmps124
      go_wp2_with fail
      refine (P.out _ CB.out.bel).mono ?_
      rintro e x ⟨rfl, hb⟩
      have HB := Lib.hid (CB.out.bel.trans (hb.mono CB.out.bel.size))
      clear hb
      go_wp2
      go_ret
      exact ⟨rfl, HB.out⟩
def ownsB (cl sl : List UInt8) (t : Int) : Bool := (placesS cl t).isEmpty && decide (waitN sl 0 t = sl.length)
set_option maxHeartbeats 1600000 in
theorem ownsNothing_any (c : Cm) (t : Int) (w : World) (hc : c.In w w.heap.size) (hv : floorB c.a c.b c.cl = true) (hs : slicesB c.sl = true) (ht : 0 ≤ t ∧ t < 3) :
    Calls Try.prog 113 #[c.val, .int .i64 t] w fun e w' => e = .returned (.bool (ownsB c.cl c.sl t)) ∧ Below w.heap.size w w' := by
  have CB := Lib.hid (cbox w c)
  have f1 := hc.f1; have s1 := hc.s1
  have P := Lib.hid (fun W (hb : Below w.heap.size w W) => private_any c.a c.b c.fA c.fn c.fc c.cl t W ((hc.f.below hb).more hb.size) (by omega))
  have Q := Lib.hid (fun W (hb : Below w.heap.size w W) => sliceWait_any c.sA c.sn c.sc 0 c.sl t W ((hc.s.below hb).more hb.size) (by omega) (by omega))
  have E1 : privS c.a c.b c.cl t = (placesS c.cl t, 0) := by unfold privS; rw [if_pos hv, if_pos ht]
  have E2 : waitS c.sl 0 t = if waitN c.sl 0 t = c.sl.length then (0, 6) else (((waitN c.sl 0 t : Nat) : Int), 0) := by
    unfold waitS askedS
    rw [if_pos (by rw [if_pos hs, if_pos ht])]
  rw [E1] at P
  have E : Hid (ownsB c.cl c.sl t = ((placesS c.cl t).isEmpty && decide (waitN c.sl 0 t = c.sl.length))) := Lib.hid rfl
  rw [E.out]
  have hpl : (placesS c.cl t).length ≤ 64 := Nat.le_trans (placesTo_le _ _ _) (floorB_len hv).2
  obtain ⟨l, hl⟩ : ∃ l, l = placesS c.cl t := ⟨_, rfl⟩
  rw [← hl] at P hpl ⊢
  clear hc hv hs ht E1 E hl
  cases l with
  | cons p l =>
    have d1 : decide (((p :: l).length : Int) > 0) = true := by simp <;> omega
    have d2 : decide (0 < (p :: l).length) = true := by simp
    rw [show (p :: l).isEmpty = false from rfl]
    obtain ⟨L, hL⟩ : ∃ L, L = (p :: l).length := ⟨_, rfl⟩
    rw [← hL] at P d1 d2
    clear Q E2 hL
    have c0 := CB.out.kf.cellv 0 (v := .int .i64 c.a) rfl
    have c1 := CB.out.kf.cellv 1 (v := .int .i64 c.b) rfl
    have c2 := CB.out.kf.cellv 2 (v := .slice c.fA c.fn c.fc) rfl
    have c3 := CB.out.kf.cellv 3 (v := .slice c.sA c.sn c.sc) rfl
    have c4 := CB.out.kf.cellv 4 (v := .slice c.tA c.tn c.tc) rfl
    have c5 := CB.out.kf.cellv 5 (v := .int .u64 (c.st : Int)) rfl
    go_enter Try.func113, Try.ntmps113
    go_wp2_with fail
    refine (P.out _ CB.out.bel).mono ?_
    rintro e x ⟨v, rfl, hv, hb⟩
    obtain ⟨A', c', rfl, _, _, _⟩ := own_form hv
    have HB := Lib.hid (CB.out.bel.trans (hb.mono CB.out.bel.size))
    clear hb hv c0 c1 c2 c3 c4 c5
    go_wp2
    go_ret
    exact ⟨rfl, HB.out⟩
  | nil =>
    rw [show ([] : List Int).isEmpty = true from rfl]
    have c0 := CB.out.kf.cellv 0 (v := .int .i64 c.a) rfl
    have c1 := CB.out.kf.cellv 1 (v := .int .i64 c.b) rfl
    have c2 := CB.out.kf.cellv 2 (v := .slice c.fA c.fn c.fc) rfl
    have c3 := CB.out.kf.cellv 3 (v := .slice c.sA c.sn c.sc) rfl
    have c4 := CB.out.kf.cellv 4 (v := .slice c.tA c.tn c.tc) rfl
    have c5 := CB.out.kf.cellv 5 (v := .int .u64 (c.st : Int)) rfl
    by_cases hw : waitN c.sl 0 t = c.sl.length
    · rw [if_pos hw] at E2
      rw [E2] at Q
      rw [decide_eq_true hw]
      clear hw E2
      go_enter Try.func113, Try.ntmps113
      go_wp2_with fail
      refine (P.out _ CB.out.bel).mono ?_
      rintro e x ⟨v, rfl, hv, hb⟩
      obtain ⟨A', c', rfl, _, _, _⟩ := own_form hv
      replace CB := Lib.hid (CB.out.next hb)
      clear hb hv c0 c1 c2 c3 c4 c5
      have c0 := CB.out.kf.cellv 0 (v := .int .i64 c.a) rfl
      have c1 := CB.out.kf.cellv 1 (v := .int .i64 c.b) rfl
      have c2 := CB.out.kf.cellv 2 (v := .slice c.fA c.fn c.fc) rfl
      have c3 := CB.out.kf.cellv 3 (v := .slice c.sA c.sn c.sc) rfl
      have c4 := CB.out.kf.cellv 4 (v := .slice c.tA c.tn c.tc) rfl
      have c5 := CB.out.kf.cellv 5 (v := .int .u64 (c.st : Int)) rfl
      go_wp2_with fail
      refine (Q.out _ CB.out.bel).mono ?_
      rintro e x ⟨rfl, hb⟩
      have HB := Lib.hid (CB.out.bel.trans (hb.mono CB.out.bel.size))
      clear hb c0 c1 c2 c3 c4 c5
      go_wp2
      go_ret
      exact ⟨rfl, HB.out⟩
    · rw [if_neg hw] at E2
      rw [E2] at Q
      rw [decide_eq_false hw]
      generalize (waitN c.sl 0 t : Int) = z at Q
      clear hw E2
      go_enter Try.func113, Try.ntmps113
      go_wp2_with fail
      refine (P.out _ CB.out.bel).mono ?_
      rintro e x ⟨v, rfl, hv, hb⟩
      obtain ⟨A', c', rfl, _, _, _⟩ := own_form hv
      replace CB := Lib.hid (CB.out.next hb)
      clear hb hv c0 c1 c2 c3 c4 c5
      have c0 := CB.out.kf.cellv 0 (v := .int .i64 c.a) rfl
      have c1 := CB.out.kf.cellv 1 (v := .int .i64 c.b) rfl
      have c2 := CB.out.kf.cellv 2 (v := .slice c.fA c.fn c.fc) rfl
      have c3 := CB.out.kf.cellv 3 (v := .slice c.sA c.sn c.sc) rfl
      have c4 := CB.out.kf.cellv 4 (v := .slice c.tA c.tn c.tc) rfl
      have c5 := CB.out.kf.cellv 5 (v := .int .u64 (c.st : Int)) rfl
      go_wp2_with fail
      refine (Q.out _ CB.out.bel).mono ?_
      rintro e x ⟨rfl, hb⟩
      have HB := Lib.hid (CB.out.bel.trans (hb.mono CB.out.bel.size))
      clear hb c0 c1 c2 c3 c4 c5
      go_wp2
      go_ret
      exact ⟨rfl, HB.out⟩
end Go.Proofs.Ytcbghchciplfcaa
