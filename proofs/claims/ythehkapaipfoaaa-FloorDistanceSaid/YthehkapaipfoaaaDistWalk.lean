/-
  FLOORDISTANCE: the walk.
-/
import Derived.Test.YthehkapaipfoaaaFAlive
namespace Go.Proofs.Ythehkapaipfoaaa.floorDistance
set_option linter.unusedVariables false
set_option linter.unusedSimpArgs false
set_option maxRecDepth 100000
open Go.RowKit

def clTo (w h p q n : Int) : Nat → Bool
  | 0 => n == 0
  | k + 1 => clTo w h p q n k || (inStep w h p (k : Int) && (distI w (toP w p (k : Int)) q == n - 1))
theorem clTo_mono {w h p q n : Int} : ∀ {k m : Nat}, k ≤ m → clTo w h p q n k = true → clTo w h p q n m = true := by
  intro k m hkm hk
  induction m with
  | zero => obtain rfl : k = 0 := by omega
            exact hk
  | succ m ih =>
    by_cases he : k = m + 1
    · subst he; exact hk
    · show (clTo w h p q n m || _) = true
      rw [ih (by omega)]; rfl
theorem clTo_all {w h p q : Int} (hp : onB w h p = true) (hq : onB w h q = true) : clTo w h p q (distI w p q) 4 = true := by
  obtain ⟨⟨hw, hh⟩, hp'⟩ := (onB_iff _ _ _).1 hp
  obtain ⟨_, hq'⟩ := (onB_iff _ _ _).1 hq
  by_cases hn : distI w p q = 0
  · exact clTo_mono (Nat.zero_le _) (by show (distI w p q == 0) = true; rw [hn]; rfl)
  · obtain ⟨d, ⟨d0, d4⟩, hin, he⟩ := dist_closer hw hp' hq' hn
    obtain ⟨k, rfl⟩ := Int.eq_ofNat_of_zero_le d0
    refine clTo_mono (k := k + 1) (by omega) ?_
    show (clTo w h p q (distI w p q) k || (inStep w h p (k : Int) && (distI w (toP w p (k : Int)) q == distI w p q - 1))) = true
    rw [show inStep w h p (k : Int) = true from hin, show distI w (toP w p (k : Int)) q = distI w p q - 1 from he]
    simp
theorem clTo_skip {w h p q n : Int} {k : Nat} (hi : inStep w h p (k : Int) = false) : clTo w h p q n (k + 1) = clTo w h p q n k := by
  show (clTo w h p q n k || _) = _
  rw [hi]; simp
theorem clTo_step {w h p q n : Int} {k : Nat} (hi : inStep w h p (k : Int) = true) (z : Bool) (hz : (distI w (toP w p (k : Int)) q == n - 1) = z) : clTo w h p q n (k + 1) = (clTo w h p q n k || z) := by
  show (clTo w h p q n k || _) = _
  rw [hi, hz]; simp
set_option maxHeartbeats 1600000 in
theorem dist_bad (w h p q r : Int) (w0 : World) (tp tq : Bool) (hp : onB w h p = tp) (hq : onB w h q = tq) (hb : (tp && tq) = false) : Calls Try.prog 11 #[.int .i64 w, .int .i64 h, .int .i64 p, .int .i64 q, .int .i64 r] w0 fun e w' => e = .returned (.bool true) ∧ Below w0.heap.size w0 w' := by
  have D := Lib.hid (fun W => distP_any w h p q W)
  have A := Lib.hid (fun W => adjP_any w h p q W)
  have O := Lib.hid (fun W => on_any w h p W)
  have O2 := Lib.hid (fun W => on_any w h q W)
  rw [show distS w h p q = (0, 2) from by unfold distS; rw [hp, hq, hb]; rfl] at D
  rw [show adjS w h p q = (false, 2) from by unfold adjS; rw [hp, hq, hb]; rfl] at A
  rw [hp] at O
  rw [hq] at O2
  clear hp hq
  cases tp
  · clear O2 hb
    go_enter Try.func11, Try.ntmps11
    go_wp2_with fail
    refine (falive_true _).mono ?_
    rintro e x1 ⟨rfl, hb1⟩
    have B1 := Lib.hid hb1; clear hb1
    go_wp2_with fail
    refine (D.out _).mono ?_
    rintro e x2 ⟨rfl, hb2⟩
    have B2 := Lib.hid (B1.out.trans (hb2.mono B1.out.size)); clear hb2 B1
    go_wp2_with fail
    refine (A.out _).mono ?_
    rintro e x3 ⟨rfl, hb3⟩
    have B3 := Lib.hid (B2.out.trans (hb3.mono B2.out.size)); clear hb3 B2
    go_wp2_with fail
    refine (O.out _).mono ?_
    rintro e x4 ⟨rfl, rfl⟩
    go_wp2
    go_ret
    exact ⟨rfl, B3.out⟩
  · obtain rfl : tq = false := by simpa using hb
    clear hb
    go_enter Try.func11, Try.ntmps11
    go_wp2_with fail
    refine (falive_true _).mono ?_
    rintro e x1 ⟨rfl, hb1⟩
    have B1 := Lib.hid hb1; clear hb1
    go_wp2_with fail
    refine (D.out _).mono ?_
    rintro e x2 ⟨rfl, hb2⟩
    have B2 := Lib.hid (B1.out.trans (hb2.mono B1.out.size)); clear hb2 B1
    go_wp2_with fail
    refine (A.out _).mono ?_
    rintro e x3 ⟨rfl, hb3⟩
    have B3 := Lib.hid (B2.out.trans (hb3.mono B2.out.size)); clear hb3 B2
    go_wp2_with fail
    refine (O.out _).mono ?_
    rintro e x4 ⟨rfl, rfl⟩
    go_wp2_with fail
    refine (O2.out _).mono ?_
    rintro e x5 ⟨rfl, rfl⟩
    go_wp2
    go_ret
    exact ⟨rfl, B3.out⟩
set_option maxHeartbeats 6400000 in
theorem dist_ok (w h p q r n : Int) (w0 : World) (hp : onB w h p = true) (hq : onB w h q = true) (hn : distI w p q = n) (z1 z2 : Bool) (e0 : (n == 0) = z1) (e1 : (n == 1) = z2) (e2 : (p == q) = z1) (hdec : decide (n = 1) = z2) : Calls Try.prog 11 #[.int .i64 w, .int .i64 h, .int .i64 p, .int .i64 q, .int .i64 r] w0 fun e w' => e = .returned (.bool true) ∧ Below w0.heap.size w0 w' := by
  have D := Lib.hid (fun W => distP_any w h p q W)
  have D2 := Lib.hid (fun W => distP_any w h q p W)
  have A := Lib.hid (fun W => adjP_any w h p q W)
  have O := Lib.hid (fun W => on_any w h p W)
  have O2 := Lib.hid (fun W => on_any w h q W)
  have O3 := Lib.hid (fun W => on_any w h r W)
  have hall := clTo_all hp hq
  have hnn := dist_nonneg w p q
  obtain ⟨⟨hw, hh⟩, hp'⟩ := (onB_iff _ _ _).1 hp
  obtain ⟨_, hq'⟩ := (onB_iff _ _ _).1 hq
  have hle := dist_le hw hh hp' hq'
  rw [show distS w h p q = (n, 0) from by unfold distS; rw [hp, hq, hn]; rfl] at D
  rw [show distS w h q p = (n, 0) from by unfold distS; rw [hp, hq, dist_comm, hn]; rfl] at D2
  rw [show adjS w h p q = (z2, 0) from by unfold adjS; rw [hp, hq, hn, hdec]; rfl] at A
  rw [hp] at O
  rw [hq] at O2
  rw [hn] at hall hnn hle
  have ST : Hid (∀ (k : Nat), k < 4 → ∀ W, inStep w h p (k : Int) = false → Calls Try.prog 23 #[.int .i64 w, .int .i64 h, .int .i64 p, .int .i64 (k : Int)] W fun e w' => e = .returned (.tuple #[.int .i64 0, .int .i64 6]) ∧ Below W.heap.size W w') :=
    Lib.hid (fun k hk W hi => by have := stepP_any w h p (k : Int) W; rwa [step_no hp (by omega) hi] at this)
  have SY : Hid (∀ (k : Nat), k < 4 → ∀ W, inStep w h p (k : Int) = true → Calls Try.prog 23 #[.int .i64 w, .int .i64 h, .int .i64 p, .int .i64 (k : Int)] W fun e w' => e = .returned (.tuple #[.int .i64 (toP w p (k : Int)), .int .i64 0]) ∧ Below W.heap.size W w') :=
    Lib.hid (fun k hk W hi => by have := stepP_any w h p (k : Int) W; rwa [step_yes hp (by omega) hi] at this)
  have DY : Hid (∀ (k : Nat) W, inStep w h p (k : Int) = true → Calls Try.prog 25 #[.int .i64 w, .int .i64 h, .int .i64 (toP w p (k : Int)), .int .i64 q] W fun e w' => e = .returned (.tuple #[.int .i64 (distI w (toP w p (k : Int)) q), .int .i64 0]) ∧ Below W.heap.size W w') :=
    Lib.hid (fun k W hi => by
      have := distP_any w h (toP w p (k : Int)) q W
      rwa [show distS w h (toP w p (k : Int)) q = (distI w (toP w p (k : Int)) q, 0) from by unfold distS; rw [(toP_on hp hi).1, hq]; rfl] at this)
  have DS : Hid (∀ (k : Nat), k < 4 → inStep w h p (k : Int) = true → distI w (toP w p (k : Int)) q = n + 1 ∨ distI w (toP w p (k : Int)) q = n - 1) :=
    Lib.hid (fun k hk hi => by rw [← hn]; exact dist_step hw (by omega) hi)
  have HP := Lib.hid hp; have HQ := Lib.hid hq; have HN := Lib.hid hn; have HALL := Lib.hid hall
  have HWW := Lib.hid hw; have HHH := Lib.hid hh
  clear hp hq hn hall hp' hq' hw hh hdec
  have E0 := Lib.hid e0
  cases z1 <;> cases z2
  all_goals
    go_enter Try.func11, Try.ntmps11
    go_wp2_with fail
    refine (falive_true _).mono ?_
    rintro e x1 ⟨rfl, hb1⟩
    have B1 := Lib.hid hb1; clear hb1
    go_wp2_with fail
    refine (D.out _).mono ?_
    rintro e x2 ⟨rfl, hb2⟩
    have B2 := Lib.hid (B1.out.trans (hb2.mono B1.out.size)); clear hb2 B1
    go_wp2_with fail
    refine (A.out _).mono ?_
    rintro e x3 ⟨rfl, hb3⟩
    have B3 := Lib.hid (B2.out.trans (hb3.mono B2.out.size)); clear hb3 B2
    go_wp2_with fail
    refine (O.out _).mono ?_
    rintro e x4 ⟨rfl, rfl⟩
    go_wp2_with fail
    refine (O2.out _).mono ?_
    rintro e x5 ⟨rfl, rfl⟩
    go_wp2_with fail
    refine (D2.out _).mono ?_
    rintro e x6 ⟨rfl, hb6⟩
    have B6 := Lib.hid (B3.out.trans (hb6.mono B3.out.size)); clear hb6 B3
    go_wp2_with fail
    refine (is_true _ _).mono ?_
    rintro e x7 ⟨rfl, rfl⟩
    go_wp2
    clear e0 e1 e2
    have hst0 := E0.out
    go_loopw [18, 19] (fun c i wr => ∃ k : Nat, k ≤ 4 ∧ i = .int .i64 (k : Int) ∧ c = .bool (clTo w h p q n k) ∧ Hid (Below w0.heap.size w0 wr))
      (fun _ i _ => 4 - (intOf i).toNat)
    case atStart => exact ⟨0, Nat.zero_le _, rfl, by show _ = Value.bool (n == 0); rw [hst0], B6⟩
    case round =>
      obtain ⟨k, hk, rfl, rfl, hbr⟩ := hrel
      clear hst0 B6
      by_cases hlt : k < 4
      · cases hi : inStep w h p (k : Int)
        · have HC := Lib.hid (clTo_skip (q := q) (n := n) hi)
          have HI := Lib.hid hi
          clear hi
          go_wp2_with fail
          refine (ST.out k hlt _ HI.out).mono ?_
          rintro e v1 ⟨rfl, hv1⟩
          have BV := Lib.hid (hbr.out.trans (hv1.mono hbr.out.size)); clear hv1 hbr
          go_wp2
          go_roundw
          case rel => exact ⟨k + 1, by omega, by go_num, by rw [HC.out], BV⟩
          case measure => simp [intOf]; omega
        · have HI := Lib.hid hi
          have hds := DS.out k hlt hi
          generalize hDD : distI w (toP w p (k : Int)) q = dd at hds
          have HDY := Lib.hid (fun W => DY.out k W HI.out)
          rw [hDD] at HDY
          have HDD := Lib.hid hDD
          clear hi hDD
          rcases hds with rfl | rfl
          · have HC := Lib.hid (clTo_step (q := q) (n := n) HI.out false (by rw [HDD.out]; simp; omega))
            rw [Bool.or_false] at HC
            have g1 : (n + 1 == n - 1) = false := by simp; omega
            cases hcl : clTo w h p q n k
            all_goals
              have HCL := Lib.hid hcl
              clear hcl
              go_wp2_with fail
              refine (SY.out k hlt _ HI.out).mono ?_
              rintro e v1 ⟨rfl, hv1⟩
              have BV := Lib.hid (hbr.out.trans (hv1.mono hbr.out.size)); clear hv1
              go_wp2_with fail
              refine (HDY.out _).mono ?_
              rintro e v2 ⟨rfl, hv2⟩
              have BV2 := Lib.hid (BV.out.trans (hv2.mono BV.out.size)); clear hv2 BV
              go_wp2
              go_roundw
              case rel => exact ⟨k + 1, by omega, by go_num, by rw [HC.out, HCL.out], BV2⟩
              case measure => simp [intOf]; omega
          · have HC := Lib.hid (clTo_step (q := q) (n := n) HI.out true (by rw [HDD.out]; simp))
            rw [Bool.or_true] at HC
            have g1 : (n - 1 != n + 1) = true := by rw [bne_iff_ne]; omega
            cases hcl : clTo w h p q n k
            all_goals
              have HCL := Lib.hid hcl
              clear hcl
              go_wp2_with fail
              refine (SY.out k hlt _ HI.out).mono ?_
              rintro e v1 ⟨rfl, hv1⟩
              have BV := Lib.hid (hbr.out.trans (hv1.mono hbr.out.size)); clear hv1
              go_wp2_with fail
              refine (HDY.out _).mono ?_
              rintro e v2 ⟨rfl, hv2⟩
              have BV2 := Lib.hid (BV.out.trans (hv2.mono BV.out.size)); clear hv2 BV
              go_wp2
              go_roundw
              case rel => exact ⟨k + 1, by omega, by go_num, by rw [HC.out], BV2⟩
              case measure => simp [intOf]; omega
      · obtain rfl : k = 4 := by omega
        have hal := HALL.out
        rw [hal]
        clear hal
        cases hr : onB w h r
        · rw [hr] at O3
          clear hr
          go_wp2_with fail
          refine (O3.out _).mono ?_
          rintro e v1 ⟨rfl, rfl⟩
          go_wp2
          go_ret
          exact ⟨rfl, hbr.out⟩
        · rw [hr] at O3
          have D3 := Lib.hid (fun W => distP_any w h q r W)
          have D4 := Lib.hid (fun W => distP_any w h p r W)
          rw [show distS w h q r = (distI w q r, 0) from by unfold distS; rw [HQ.out, hr]; rfl] at D3
          rw [show distS w h p r = (distI w p r, 0) from by unfold distS; rw [HP.out, hr]; rfl] at D4
          obtain ⟨⟨hw, hh⟩, hr'⟩ := (onB_iff _ _ _).1 hr
          obtain ⟨_, hq'⟩ := (onB_iff _ _ _).1 HQ.out
          have t1 := dist_tri w p q r
          rw [HN.out] at t1
          have t2 := dist_nonneg w q r
          have t3 := dist_le hw hh hq' hr'
          have t4 := dist_nonneg w p r
          generalize distI w q r = a1 at *
          generalize distI w p r = b1 at *
          clear hr hw hh hr' hq'
          go_wp2_with fail
          refine (O3.out _).mono ?_
          rintro e v1 ⟨rfl, rfl⟩
          go_wp2_with fail
          refine (D3.out _).mono ?_
          rintro e v2 ⟨rfl, hv2⟩
          have BV2 := Lib.hid (hbr.out.trans (hv2.mono hbr.out.size)); clear hv2
          go_wp2_with fail
          refine (D4.out _).mono ?_
          rintro e v3 ⟨rfl, hv3⟩
          have BV3 := Lib.hid (BV2.out.trans (hv3.mono BV2.out.size)); clear hv3
          go_wp2
          go_ret
          exact ⟨rfl, BV3.out⟩

/-- The walk: true, whatever came in. -/
theorem floorDistance_walk (w h p q r : Int) (w0 : World) (_ : (Lit.int .i64 w).wf = true) (_ : (Lit.int .i64 h).wf = true) (_ : (Lit.int .i64 p).wf = true) (_ : (Lit.int .i64 q).wf = true) (_ : (Lit.int .i64 r).wf = true) : Calls Try.prog 11 #[.int .i64 w, .int .i64 h, .int .i64 p, .int .i64 q, .int .i64 r] w0 fun e w' => e = .returned (.bool true) ∧ Below w0.heap.size w0 w' := by
  cases hp : onB w h p
  · exact dist_bad w h p q r w0 false _ hp rfl rfl
  · cases hq : onB w h q
    · exact dist_bad w h p q r w0 true false hp hq rfl
    · obtain ⟨⟨hw, hh⟩, hp'⟩ := (onB_iff _ _ _).1 hp
      obtain ⟨_, hq'⟩ := (onB_iff _ _ _).1 hq
      have hz := dist_zero hw hp' hq'
      refine dist_ok w h p q r _ w0 hp hq rfl _ _ rfl rfl ?_ ?_
      · by_cases h0 : p = q
        · have := hz.2 h0
          rw [this]
          simp [h0]
        · have : distI w p q ≠ 0 := fun e => h0 (hz.1 e)
          rw [show (p == q) = false from by simpa using h0, show (distI w p q == 0) = false from by simpa using this]
      · by_cases h1 : distI w p q = 1
        · rw [h1]; rfl
        · rw [decide_eq_false h1, show (distI w p q == 1) = false from by simpa using h1]
end Go.Proofs.Ythehkapaipfoaaa.floorDistance
