/-
  CFGNUM: within, hasValidNumbers; the reference's between, Numbers.
-/
import Derived.Test.YtcbghchciplfcaaCfgTeam
import Derived.BigQuiet
namespace Go.Proofs.Ytcbghchciplfcaa
set_option linter.unusedVariables false
set_option linter.unusedSimpArgs false
set_option maxRecDepth 100000
open Go.RowKit

theorem btw_lo {m x : Int} (h : x < 1) : btw m x = false := by unfold btw; simp; omega
theorem btw_hi {m x : Int} (h : x > m) : btw m x = false := by unfold btw; simp; omega
theorem btw_in {m x : Int} (h1 : ¬ x < 1) (h2 : ¬ x > m) : btw m x = true := by unfold btw; simp; omega
set_option maxHeartbeats 1600000 in
theorem within_any (m : Int) (A : Option Addr) (n c : Nat) (l : List Int) (w : World) (hr : Reads w w.heap.size 1 A n (iv l)) (hn : n ≤ 1000) :
    Calls Try.prog 110 #[.int .i64 m, .slice A n c] w fun e w' => e = .returned (.bool (l.all (btw m))) ∧ w' = w := by
  have hl := hr.len
  obtain ⟨R, hR⟩ : ∃ R, R = l.all (btw m) := ⟨_, rfl⟩
  rw [← hR]
  have HRR := Lib.hid hR
  have HR := Lib.hid hr; have HL := Lib.hid hl
  clear hr hl hR
  go_enter Try.func110, Try.ntmps110
  go_wp2
  go_loopw [9] (fun i wr => ∃ k : Nat, k ≤ n ∧ i = .int .i64 (k : Int) ∧ wr = w ∧ Hid ((l.take k).all (btw m) = true))
    (fun i _ => n - (intOf i).toNat)
  case atStart => exact ⟨0, Nat.zero_le _, rfl, rfl, Lib.hid rfl⟩
  case round =>
    obtain ⟨k, hk, rfl, rfl, hall⟩ := hrel
    by_cases hlt : k < n
    · obtain ⟨ad, x, rfl, had, hx, hcx⟩ := ints_at HR.out hlt
      have HX := Lib.hid hx
      clear hx had
      have k0 : (0 : Int) ≤ (k : Int) := by omega
      have k1 : (k : Int) < (n : Int) := by omega
      by_cases h1 : x < 1
      · have HB := Lib.hid (btw_lo (m := m) h1)
        have t1 : decide (x < 1) = true := by simpa using h1
        go_wp2
        go_ret
        have hf : l.all (btw m) = false := List.all_eq_false.2 ⟨x, List.mem_of_getElem? HX.out, by rw [HB.out]; simp⟩
        exact ⟨by rw [HRR.out, hf]; rfl, rfl⟩
      · by_cases h2 : x > m
        · have HB := Lib.hid (btw_hi (m := m) h2)
          have t1 : decide (x < 1) = false := by simpa using h1
          have t2 : decide (m < x) = true := by simpa using h2
          go_wp2
          go_ret
          have hf : l.all (btw m) = false := List.all_eq_false.2 ⟨x, List.mem_of_getElem? HX.out, by rw [HB.out]; simp⟩
          exact ⟨by rw [HRR.out, hf]; rfl, rfl⟩
        · have HB := Lib.hid (btw_in h1 h2)
          have t1 : decide (x < 1) = false := by simpa using h1
          have t2 : decide (m < x) = false := by simp; omega
          go_wp2
          go_roundw
          case rel => exact ⟨k + 1, by omega, by go_num, trivial, Lib.hid (by rw [List.take_add_one, HX.out, List.all_append, hall.out]; simp [HB.out])⟩
          case measure => simp [intOf]; omega
    · obtain rfl : k = n := by omega
      go_wp2
      go_ret
      have hf : l.all (btw m) = true := by have := hall.out; rwa [List.take_of_length_le (by rw [HL.out]; exact Nat.le_refl _)] at this
      exact ⟨by rw [HRR.out, hf]; rfl, rfl⟩
theorem within1 (m x : Int) (W : World) : Calls Try.prog 110 #[.int .i64 m, .slice (some ⟨W.heap.size, 0, none⟩) 1 1] (W.alloc (.cells #[.int .i64 x] 3)) fun e w' => e = .returned (.bool (btw m x)) ∧ Below W.heap.size W w' :=
  (within_any m _ 1 1 [x] _ (iv_lit W 3 [x] _ rfl) (by omega)).mono fun _ _ h => ⟨by rw [h.1]; simp, h.2 ▸ bk_alloc (Below.refl _ _) _⟩
theorem within2 (m x y : Int) (W : World) : Calls Try.prog 110 #[.int .i64 m, .slice (some ⟨W.heap.size, 0, none⟩) 2 2] (W.alloc (.cells #[.int .i64 x, .int .i64 y] 3)) fun e w' => e = .returned (.bool (btw m x && btw m y)) ∧ Below W.heap.size W w' :=
  (within_any m _ 2 2 [x, y] _ (iv_lit W 3 [x, y] _ rfl) (by omega)).mono fun _ _ h => ⟨by rw [h.1]; simp, h.2 ▸ bk_alloc (Below.refl _ _) _⟩
theorem between_any (n m : Int) (w : World) : Calls Try.prog 134 #[.int .i64 n, .int .i64 m] w fun e w' => e = .returned (.bool (btw m n)) ∧ w' = w := by
  by_cases h1 : n < 1
  · rw [btw_lo h1]
    have t1 : decide (n ≥ 1) = false := by simp; omega
    go_enter Try.func134, Try.ntmps134
    go_wp2
    go_ret
    exact ⟨rfl, rfl⟩
  · have t1 : decide (n ≥ 1) = true := by simp; omega
    by_cases h2 : n > m
    · rw [btw_hi h2]
      have t2 : decide (n ≤ m) = false := by simp; omega
      go_enter Try.func134, Try.ntmps134
      go_wp2
      go_ret
      exact ⟨rfl, rfl⟩
    · rw [btw_in h1 h2]
      have t2 : decide (n ≤ m) = true := by simp; omega
      go_enter Try.func134, Try.ntmps134
      go_wp2
      go_ret
      exact ⟨rfl, rfl⟩
set_option maxHeartbeats 3200000 in
theorem numbers_any (t : Tm) (w : World) (ht : t.In w w.heap.size) :
    Calls Try.prog 64 #[t.val] w fun e w' => e = .returned (.bool t.tm.numB) ∧ Below w.heap.size w w' := by
  have TB := Lib.hid (tbox w t)
  have h1 := ht.h1; have p1 := ht.p1; have d1 := ht.d1
  have E : Hid (t.tm.numB = (btw 3 (t.hn : Int) && (btw 3 (t.pn : Int) && btw 3 (t.dn : Int)) && (btw 8 t.tm.lo && btw 8 t.tm.un) && btw 8 t.tm.qu && btw 16 t.tm.qt && btw 64 t.tm.wi)) := by
    refine Lib.hid ?_
    unfold Team.numB
    rw [ht.h.len, ht.p.len, ht.d.len]
    simp only [Bool.and_assoc]
  have V1 := Lib.hid (fun W => within1 3 (t.hn : Int) W)
  have V2 := Lib.hid (fun W => within2 3 (t.pn : Int) (t.dn : Int) W)
  have V3 := Lib.hid (fun W => within2 8 t.tm.lo t.tm.un W)
  have V4 := Lib.hid (fun W => within1 8 t.tm.qu W)
  have V5 := Lib.hid (fun W => within1 16 t.tm.qt W)
  have V6 := Lib.hid (fun W => within1 64 t.tm.wi W)
  generalize btw 3 (t.hn : Int) = b1 at V1 E
  generalize (btw 3 (t.pn : Int) && btw 3 (t.dn : Int)) = b2 at V2 E
  generalize (btw 8 t.tm.lo && btw 8 t.tm.un) = b3 at V3 E
  generalize btw 8 t.tm.qu = b4 at V4 E
  generalize btw 16 t.tm.qt = b5 at V5 E
  generalize btw 64 t.tm.wi = b6 at V6 E
  generalize t.tm.numB = R at E ⊢
  clear ht
  have c0 := TB.out.kf.cellv 0 (v := .slice t.hA t.hn t.hc) rfl
  have c1 := TB.out.kf.cellv 1 (v := .slice t.pA t.pn t.pc) rfl
  have c2 := TB.out.kf.cellv 2 (v := .slice t.dA t.dn t.dc) rfl
  have c3 := TB.out.kf.cellv 3 (v := .int .i64 t.tm.lo) rfl
  have c4 := TB.out.kf.cellv 4 (v := .int .i64 t.tm.un) rfl
  have c5 := TB.out.kf.cellv 5 (v := .int .i64 t.tm.qu) rfl
  have c6 := TB.out.kf.cellv 6 (v := .int .i64 t.tm.qt) rfl
  have c7 := TB.out.kf.cellv 7 (v := .int .i64 t.tm.wi) rfl
  cases b1
  · go_enter Try.func64, Try.ntmps64
    go_upto_region 1 with fail
    clear c0 c1 c2 c3 c4 c5 c6 c7
    generalize World.alloc _ _ = X at TB ⊢
    have c0 := TB.out.kf.cellv 0 (v := .slice t.hA t.hn t.hc) rfl
    have c1 := TB.out.kf.cellv 1 (v := .slice t.pA t.pn t.pc) rfl
    have c2 := TB.out.kf.cellv 2 (v := .slice t.dA t.dn t.dc) rfl
    have c3 := TB.out.kf.cellv 3 (v := .int .i64 t.tm.lo) rfl
    have c4 := TB.out.kf.cellv 4 (v := .int .i64 t.tm.un) rfl
    have c5 := TB.out.kf.cellv 5 (v := .int .i64 t.tm.qu) rfl
    have c6 := TB.out.kf.cellv 6 (v := .int .i64 t.tm.qt) rfl
    have c7 := TB.out.kf.cellv 7 (v := .int .i64 t.tm.wi) rfl
    go_wp2_with fail
    refine (V1.out _).mono ?_
    rintro e x ⟨rfl, hb⟩
    replace TB := Lib.hid (TB.out.next hb)
    clear hb c0 c1 c2 c3 c4 c5 c6 c7
    have c0 := TB.out.kf.cellv 0 (v := .slice t.hA t.hn t.hc) rfl
    have c1 := TB.out.kf.cellv 1 (v := .slice t.pA t.pn t.pc) rfl
    have c2 := TB.out.kf.cellv 2 (v := .slice t.dA t.dn t.dc) rfl
    have c3 := TB.out.kf.cellv 3 (v := .int .i64 t.tm.lo) rfl
    have c4 := TB.out.kf.cellv 4 (v := .int .i64 t.tm.un) rfl
    have c5 := TB.out.kf.cellv 5 (v := .int .i64 t.tm.qu) rfl
    have c6 := TB.out.kf.cellv 6 (v := .int .i64 t.tm.qt) rfl
    have c7 := TB.out.kf.cellv 7 (v := .int .i64 t.tm.wi) rfl
    go_wp2
    go_ret
    exact ⟨by rw [E.out]; rfl, TB.out.bel⟩
  · cases b2
    · go_enter Try.func64, Try.ntmps64
      go_upto_region 1 with fail
      clear c0 c1 c2 c3 c4 c5 c6 c7
      generalize World.alloc _ _ = X at TB ⊢
      have c0 := TB.out.kf.cellv 0 (v := .slice t.hA t.hn t.hc) rfl
      have c1 := TB.out.kf.cellv 1 (v := .slice t.pA t.pn t.pc) rfl
      have c2 := TB.out.kf.cellv 2 (v := .slice t.dA t.dn t.dc) rfl
      have c3 := TB.out.kf.cellv 3 (v := .int .i64 t.tm.lo) rfl
      have c4 := TB.out.kf.cellv 4 (v := .int .i64 t.tm.un) rfl
      have c5 := TB.out.kf.cellv 5 (v := .int .i64 t.tm.qu) rfl
      have c6 := TB.out.kf.cellv 6 (v := .int .i64 t.tm.qt) rfl
      have c7 := TB.out.kf.cellv 7 (v := .int .i64 t.tm.wi) rfl
      go_wp2_with fail
      refine (V1.out _).mono ?_
      rintro e x ⟨rfl, hb⟩
      replace TB := Lib.hid (TB.out.next hb)
      clear hb c0 c1 c2 c3 c4 c5 c6 c7
      have c0 := TB.out.kf.cellv 0 (v := .slice t.hA t.hn t.hc) rfl
      have c1 := TB.out.kf.cellv 1 (v := .slice t.pA t.pn t.pc) rfl
      have c2 := TB.out.kf.cellv 2 (v := .slice t.dA t.dn t.dc) rfl
      have c3 := TB.out.kf.cellv 3 (v := .int .i64 t.tm.lo) rfl
      have c4 := TB.out.kf.cellv 4 (v := .int .i64 t.tm.un) rfl
      have c5 := TB.out.kf.cellv 5 (v := .int .i64 t.tm.qu) rfl
      have c6 := TB.out.kf.cellv 6 (v := .int .i64 t.tm.qt) rfl
      have c7 := TB.out.kf.cellv 7 (v := .int .i64 t.tm.wi) rfl
      go_wp2_with fail
      refine (V2.out _).mono ?_
      rintro e x ⟨rfl, hb⟩
      replace TB := Lib.hid (TB.out.next hb)
      clear hb c0 c1 c2 c3 c4 c5 c6 c7
      have c0 := TB.out.kf.cellv 0 (v := .slice t.hA t.hn t.hc) rfl
      have c1 := TB.out.kf.cellv 1 (v := .slice t.pA t.pn t.pc) rfl
      have c2 := TB.out.kf.cellv 2 (v := .slice t.dA t.dn t.dc) rfl
      have c3 := TB.out.kf.cellv 3 (v := .int .i64 t.tm.lo) rfl
      have c4 := TB.out.kf.cellv 4 (v := .int .i64 t.tm.un) rfl
      have c5 := TB.out.kf.cellv 5 (v := .int .i64 t.tm.qu) rfl
      have c6 := TB.out.kf.cellv 6 (v := .int .i64 t.tm.qt) rfl
      have c7 := TB.out.kf.cellv 7 (v := .int .i64 t.tm.wi) rfl
      go_wp2
      go_ret
      exact ⟨by rw [E.out]; rfl, TB.out.bel⟩
    · cases b3
      · go_enter Try.func64, Try.ntmps64
        go_upto_region 1 with fail
        clear c0 c1 c2 c3 c4 c5 c6 c7
        generalize World.alloc _ _ = X at TB ⊢
        have c0 := TB.out.kf.cellv 0 (v := .slice t.hA t.hn t.hc) rfl
        have c1 := TB.out.kf.cellv 1 (v := .slice t.pA t.pn t.pc) rfl
        have c2 := TB.out.kf.cellv 2 (v := .slice t.dA t.dn t.dc) rfl
        have c3 := TB.out.kf.cellv 3 (v := .int .i64 t.tm.lo) rfl
        have c4 := TB.out.kf.cellv 4 (v := .int .i64 t.tm.un) rfl
        have c5 := TB.out.kf.cellv 5 (v := .int .i64 t.tm.qu) rfl
        have c6 := TB.out.kf.cellv 6 (v := .int .i64 t.tm.qt) rfl
        have c7 := TB.out.kf.cellv 7 (v := .int .i64 t.tm.wi) rfl
        go_wp2_with fail
        refine (V1.out _).mono ?_
        rintro e x ⟨rfl, hb⟩
        replace TB := Lib.hid (TB.out.next hb)
        clear hb c0 c1 c2 c3 c4 c5 c6 c7
        have c0 := TB.out.kf.cellv 0 (v := .slice t.hA t.hn t.hc) rfl
        have c1 := TB.out.kf.cellv 1 (v := .slice t.pA t.pn t.pc) rfl
        have c2 := TB.out.kf.cellv 2 (v := .slice t.dA t.dn t.dc) rfl
        have c3 := TB.out.kf.cellv 3 (v := .int .i64 t.tm.lo) rfl
        have c4 := TB.out.kf.cellv 4 (v := .int .i64 t.tm.un) rfl
        have c5 := TB.out.kf.cellv 5 (v := .int .i64 t.tm.qu) rfl
        have c6 := TB.out.kf.cellv 6 (v := .int .i64 t.tm.qt) rfl
        have c7 := TB.out.kf.cellv 7 (v := .int .i64 t.tm.wi) rfl
        go_wp2_with fail
        refine (V2.out _).mono ?_
        rintro e x ⟨rfl, hb⟩
        replace TB := Lib.hid (TB.out.next hb)
        clear hb c0 c1 c2 c3 c4 c5 c6 c7
        have c0 := TB.out.kf.cellv 0 (v := .slice t.hA t.hn t.hc) rfl
        have c1 := TB.out.kf.cellv 1 (v := .slice t.pA t.pn t.pc) rfl
        have c2 := TB.out.kf.cellv 2 (v := .slice t.dA t.dn t.dc) rfl
        have c3 := TB.out.kf.cellv 3 (v := .int .i64 t.tm.lo) rfl
        have c4 := TB.out.kf.cellv 4 (v := .int .i64 t.tm.un) rfl
        have c5 := TB.out.kf.cellv 5 (v := .int .i64 t.tm.qu) rfl
        have c6 := TB.out.kf.cellv 6 (v := .int .i64 t.tm.qt) rfl
        have c7 := TB.out.kf.cellv 7 (v := .int .i64 t.tm.wi) rfl
        go_wp2_with fail
        refine (V3.out _).mono ?_
        rintro e x ⟨rfl, hb⟩
        replace TB := Lib.hid (TB.out.next hb)
        clear hb c0 c1 c2 c3 c4 c5 c6 c7
        have c0 := TB.out.kf.cellv 0 (v := .slice t.hA t.hn t.hc) rfl
        have c1 := TB.out.kf.cellv 1 (v := .slice t.pA t.pn t.pc) rfl
        have c2 := TB.out.kf.cellv 2 (v := .slice t.dA t.dn t.dc) rfl
        have c3 := TB.out.kf.cellv 3 (v := .int .i64 t.tm.lo) rfl
        have c4 := TB.out.kf.cellv 4 (v := .int .i64 t.tm.un) rfl
        have c5 := TB.out.kf.cellv 5 (v := .int .i64 t.tm.qu) rfl
        have c6 := TB.out.kf.cellv 6 (v := .int .i64 t.tm.qt) rfl
        have c7 := TB.out.kf.cellv 7 (v := .int .i64 t.tm.wi) rfl
        go_wp2
        go_ret
        exact ⟨by rw [E.out]; rfl, TB.out.bel⟩
      · cases b4
        · go_enter Try.func64, Try.ntmps64
          go_upto_region 1 with fail
          clear c0 c1 c2 c3 c4 c5 c6 c7
          generalize World.alloc _ _ = X at TB ⊢
          have c0 := TB.out.kf.cellv 0 (v := .slice t.hA t.hn t.hc) rfl
          have c1 := TB.out.kf.cellv 1 (v := .slice t.pA t.pn t.pc) rfl
          have c2 := TB.out.kf.cellv 2 (v := .slice t.dA t.dn t.dc) rfl
          have c3 := TB.out.kf.cellv 3 (v := .int .i64 t.tm.lo) rfl
          have c4 := TB.out.kf.cellv 4 (v := .int .i64 t.tm.un) rfl
          have c5 := TB.out.kf.cellv 5 (v := .int .i64 t.tm.qu) rfl
          have c6 := TB.out.kf.cellv 6 (v := .int .i64 t.tm.qt) rfl
          have c7 := TB.out.kf.cellv 7 (v := .int .i64 t.tm.wi) rfl
          go_wp2_with fail
          refine (V1.out _).mono ?_
          rintro e x ⟨rfl, hb⟩
          replace TB := Lib.hid (TB.out.next hb)
          clear hb c0 c1 c2 c3 c4 c5 c6 c7
          have c0 := TB.out.kf.cellv 0 (v := .slice t.hA t.hn t.hc) rfl
          have c1 := TB.out.kf.cellv 1 (v := .slice t.pA t.pn t.pc) rfl
          have c2 := TB.out.kf.cellv 2 (v := .slice t.dA t.dn t.dc) rfl
          have c3 := TB.out.kf.cellv 3 (v := .int .i64 t.tm.lo) rfl
          have c4 := TB.out.kf.cellv 4 (v := .int .i64 t.tm.un) rfl
          have c5 := TB.out.kf.cellv 5 (v := .int .i64 t.tm.qu) rfl
          have c6 := TB.out.kf.cellv 6 (v := .int .i64 t.tm.qt) rfl
          have c7 := TB.out.kf.cellv 7 (v := .int .i64 t.tm.wi) rfl
          go_wp2_with fail
          refine (V2.out _).mono ?_
          rintro e x ⟨rfl, hb⟩
          replace TB := Lib.hid (TB.out.next hb)
          clear hb c0 c1 c2 c3 c4 c5 c6 c7
          have c0 := TB.out.kf.cellv 0 (v := .slice t.hA t.hn t.hc) rfl
          have c1 := TB.out.kf.cellv 1 (v := .slice t.pA t.pn t.pc) rfl
          have c2 := TB.out.kf.cellv 2 (v := .slice t.dA t.dn t.dc) rfl
          have c3 := TB.out.kf.cellv 3 (v := .int .i64 t.tm.lo) rfl
          have c4 := TB.out.kf.cellv 4 (v := .int .i64 t.tm.un) rfl
          have c5 := TB.out.kf.cellv 5 (v := .int .i64 t.tm.qu) rfl
          have c6 := TB.out.kf.cellv 6 (v := .int .i64 t.tm.qt) rfl
          have c7 := TB.out.kf.cellv 7 (v := .int .i64 t.tm.wi) rfl
          go_wp2_with fail
          refine (V3.out _).mono ?_
          rintro e x ⟨rfl, hb⟩
          replace TB := Lib.hid (TB.out.next hb)
          clear hb c0 c1 c2 c3 c4 c5 c6 c7
          have c0 := TB.out.kf.cellv 0 (v := .slice t.hA t.hn t.hc) rfl
          have c1 := TB.out.kf.cellv 1 (v := .slice t.pA t.pn t.pc) rfl
          have c2 := TB.out.kf.cellv 2 (v := .slice t.dA t.dn t.dc) rfl
          have c3 := TB.out.kf.cellv 3 (v := .int .i64 t.tm.lo) rfl
          have c4 := TB.out.kf.cellv 4 (v := .int .i64 t.tm.un) rfl
          have c5 := TB.out.kf.cellv 5 (v := .int .i64 t.tm.qu) rfl
          have c6 := TB.out.kf.cellv 6 (v := .int .i64 t.tm.qt) rfl
          have c7 := TB.out.kf.cellv 7 (v := .int .i64 t.tm.wi) rfl
          go_wp2_with fail
          refine (V4.out _).mono ?_
          rintro e x ⟨rfl, hb⟩
          replace TB := Lib.hid (TB.out.next hb)
          clear hb c0 c1 c2 c3 c4 c5 c6 c7
          have c0 := TB.out.kf.cellv 0 (v := .slice t.hA t.hn t.hc) rfl
          have c1 := TB.out.kf.cellv 1 (v := .slice t.pA t.pn t.pc) rfl
          have c2 := TB.out.kf.cellv 2 (v := .slice t.dA t.dn t.dc) rfl
          have c3 := TB.out.kf.cellv 3 (v := .int .i64 t.tm.lo) rfl
          have c4 := TB.out.kf.cellv 4 (v := .int .i64 t.tm.un) rfl
          have c5 := TB.out.kf.cellv 5 (v := .int .i64 t.tm.qu) rfl
          have c6 := TB.out.kf.cellv 6 (v := .int .i64 t.tm.qt) rfl
          have c7 := TB.out.kf.cellv 7 (v := .int .i64 t.tm.wi) rfl
          go_wp2
          go_ret
          exact ⟨by rw [E.out]; rfl, TB.out.bel⟩
        · cases b5
          · go_enter Try.func64, Try.ntmps64
            go_upto_region 1 with fail
            clear c0 c1 c2 c3 c4 c5 c6 c7
            generalize World.alloc _ _ = X at TB ⊢
            have c0 := TB.out.kf.cellv 0 (v := .slice t.hA t.hn t.hc) rfl
            have c1 := TB.out.kf.cellv 1 (v := .slice t.pA t.pn t.pc) rfl
            have c2 := TB.out.kf.cellv 2 (v := .slice t.dA t.dn t.dc) rfl
            have c3 := TB.out.kf.cellv 3 (v := .int .i64 t.tm.lo) rfl
            have c4 := TB.out.kf.cellv 4 (v := .int .i64 t.tm.un) rfl
            have c5 := TB.out.kf.cellv 5 (v := .int .i64 t.tm.qu) rfl
            have c6 := TB.out.kf.cellv 6 (v := .int .i64 t.tm.qt) rfl
            have c7 := TB.out.kf.cellv 7 (v := .int .i64 t.tm.wi) rfl
            go_wp2_with fail
            refine (V1.out _).mono ?_
            rintro e x ⟨rfl, hb⟩
            replace TB := Lib.hid (TB.out.next hb)
            clear hb c0 c1 c2 c3 c4 c5 c6 c7
            have c0 := TB.out.kf.cellv 0 (v := .slice t.hA t.hn t.hc) rfl
            have c1 := TB.out.kf.cellv 1 (v := .slice t.pA t.pn t.pc) rfl
            have c2 := TB.out.kf.cellv 2 (v := .slice t.dA t.dn t.dc) rfl
            have c3 := TB.out.kf.cellv 3 (v := .int .i64 t.tm.lo) rfl
            have c4 := TB.out.kf.cellv 4 (v := .int .i64 t.tm.un) rfl
            have c5 := TB.out.kf.cellv 5 (v := .int .i64 t.tm.qu) rfl
            have c6 := TB.out.kf.cellv 6 (v := .int .i64 t.tm.qt) rfl
            have c7 := TB.out.kf.cellv 7 (v := .int .i64 t.tm.wi) rfl
            go_wp2_with fail
            refine (V2.out _).mono ?_
            rintro e x ⟨rfl, hb⟩
            replace TB := Lib.hid (TB.out.next hb)
            clear hb c0 c1 c2 c3 c4 c5 c6 c7
            have c0 := TB.out.kf.cellv 0 (v := .slice t.hA t.hn t.hc) rfl
            have c1 := TB.out.kf.cellv 1 (v := .slice t.pA t.pn t.pc) rfl
            have c2 := TB.out.kf.cellv 2 (v := .slice t.dA t.dn t.dc) rfl
            have c3 := TB.out.kf.cellv 3 (v := .int .i64 t.tm.lo) rfl
            have c4 := TB.out.kf.cellv 4 (v := .int .i64 t.tm.un) rfl
            have c5 := TB.out.kf.cellv 5 (v := .int .i64 t.tm.qu) rfl
            have c6 := TB.out.kf.cellv 6 (v := .int .i64 t.tm.qt) rfl
            have c7 := TB.out.kf.cellv 7 (v := .int .i64 t.tm.wi) rfl
            go_wp2_with fail
            refine (V3.out _).mono ?_
            rintro e x ⟨rfl, hb⟩
            replace TB := Lib.hid (TB.out.next hb)
            clear hb c0 c1 c2 c3 c4 c5 c6 c7
            have c0 := TB.out.kf.cellv 0 (v := .slice t.hA t.hn t.hc) rfl
            have c1 := TB.out.kf.cellv 1 (v := .slice t.pA t.pn t.pc) rfl
            have c2 := TB.out.kf.cellv 2 (v := .slice t.dA t.dn t.dc) rfl
            have c3 := TB.out.kf.cellv 3 (v := .int .i64 t.tm.lo) rfl
            have c4 := TB.out.kf.cellv 4 (v := .int .i64 t.tm.un) rfl
            have c5 := TB.out.kf.cellv 5 (v := .int .i64 t.tm.qu) rfl
            have c6 := TB.out.kf.cellv 6 (v := .int .i64 t.tm.qt) rfl
            have c7 := TB.out.kf.cellv 7 (v := .int .i64 t.tm.wi) rfl
            go_wp2_with fail
            refine (V4.out _).mono ?_
            rintro e x ⟨rfl, hb⟩
            replace TB := Lib.hid (TB.out.next hb)
            clear hb c0 c1 c2 c3 c4 c5 c6 c7
            have c0 := TB.out.kf.cellv 0 (v := .slice t.hA t.hn t.hc) rfl
            have c1 := TB.out.kf.cellv 1 (v := .slice t.pA t.pn t.pc) rfl
            have c2 := TB.out.kf.cellv 2 (v := .slice t.dA t.dn t.dc) rfl
            have c3 := TB.out.kf.cellv 3 (v := .int .i64 t.tm.lo) rfl
            have c4 := TB.out.kf.cellv 4 (v := .int .i64 t.tm.un) rfl
            have c5 := TB.out.kf.cellv 5 (v := .int .i64 t.tm.qu) rfl
            have c6 := TB.out.kf.cellv 6 (v := .int .i64 t.tm.qt) rfl
            have c7 := TB.out.kf.cellv 7 (v := .int .i64 t.tm.wi) rfl
            go_wp2_with fail
            refine (V5.out _).mono ?_
            rintro e x ⟨rfl, hb⟩
            replace TB := Lib.hid (TB.out.next hb)
            clear hb c0 c1 c2 c3 c4 c5 c6 c7
            have c0 := TB.out.kf.cellv 0 (v := .slice t.hA t.hn t.hc) rfl
            have c1 := TB.out.kf.cellv 1 (v := .slice t.pA t.pn t.pc) rfl
            have c2 := TB.out.kf.cellv 2 (v := .slice t.dA t.dn t.dc) rfl
            have c3 := TB.out.kf.cellv 3 (v := .int .i64 t.tm.lo) rfl
            have c4 := TB.out.kf.cellv 4 (v := .int .i64 t.tm.un) rfl
            have c5 := TB.out.kf.cellv 5 (v := .int .i64 t.tm.qu) rfl
            have c6 := TB.out.kf.cellv 6 (v := .int .i64 t.tm.qt) rfl
            have c7 := TB.out.kf.cellv 7 (v := .int .i64 t.tm.wi) rfl
            go_wp2
            go_ret
            exact ⟨by rw [E.out]; rfl, TB.out.bel⟩
          · go_enter Try.func64, Try.ntmps64
            go_upto_region 1 with fail
            clear c0 c1 c2 c3 c4 c5 c6 c7
            generalize World.alloc _ _ = X at TB ⊢
            have c0 := TB.out.kf.cellv 0 (v := .slice t.hA t.hn t.hc) rfl
            have c1 := TB.out.kf.cellv 1 (v := .slice t.pA t.pn t.pc) rfl
            have c2 := TB.out.kf.cellv 2 (v := .slice t.dA t.dn t.dc) rfl
            have c3 := TB.out.kf.cellv 3 (v := .int .i64 t.tm.lo) rfl
            have c4 := TB.out.kf.cellv 4 (v := .int .i64 t.tm.un) rfl
            have c5 := TB.out.kf.cellv 5 (v := .int .i64 t.tm.qu) rfl
            have c6 := TB.out.kf.cellv 6 (v := .int .i64 t.tm.qt) rfl
            have c7 := TB.out.kf.cellv 7 (v := .int .i64 t.tm.wi) rfl
            go_wp2_with fail
            refine (V1.out _).mono ?_
            rintro e x ⟨rfl, hb⟩
            replace TB := Lib.hid (TB.out.next hb)
            clear hb c0 c1 c2 c3 c4 c5 c6 c7
            have c0 := TB.out.kf.cellv 0 (v := .slice t.hA t.hn t.hc) rfl
            have c1 := TB.out.kf.cellv 1 (v := .slice t.pA t.pn t.pc) rfl
            have c2 := TB.out.kf.cellv 2 (v := .slice t.dA t.dn t.dc) rfl
            have c3 := TB.out.kf.cellv 3 (v := .int .i64 t.tm.lo) rfl
            have c4 := TB.out.kf.cellv 4 (v := .int .i64 t.tm.un) rfl
            have c5 := TB.out.kf.cellv 5 (v := .int .i64 t.tm.qu) rfl
            have c6 := TB.out.kf.cellv 6 (v := .int .i64 t.tm.qt) rfl
            have c7 := TB.out.kf.cellv 7 (v := .int .i64 t.tm.wi) rfl
            go_wp2_with fail
            refine (V2.out _).mono ?_
            rintro e x ⟨rfl, hb⟩
            replace TB := Lib.hid (TB.out.next hb)
            clear hb c0 c1 c2 c3 c4 c5 c6 c7
            have c0 := TB.out.kf.cellv 0 (v := .slice t.hA t.hn t.hc) rfl
            have c1 := TB.out.kf.cellv 1 (v := .slice t.pA t.pn t.pc) rfl
            have c2 := TB.out.kf.cellv 2 (v := .slice t.dA t.dn t.dc) rfl
            have c3 := TB.out.kf.cellv 3 (v := .int .i64 t.tm.lo) rfl
            have c4 := TB.out.kf.cellv 4 (v := .int .i64 t.tm.un) rfl
            have c5 := TB.out.kf.cellv 5 (v := .int .i64 t.tm.qu) rfl
            have c6 := TB.out.kf.cellv 6 (v := .int .i64 t.tm.qt) rfl
            have c7 := TB.out.kf.cellv 7 (v := .int .i64 t.tm.wi) rfl
            go_wp2_with fail
            refine (V3.out _).mono ?_
            rintro e x ⟨rfl, hb⟩
            replace TB := Lib.hid (TB.out.next hb)
            clear hb c0 c1 c2 c3 c4 c5 c6 c7
            have c0 := TB.out.kf.cellv 0 (v := .slice t.hA t.hn t.hc) rfl
            have c1 := TB.out.kf.cellv 1 (v := .slice t.pA t.pn t.pc) rfl
            have c2 := TB.out.kf.cellv 2 (v := .slice t.dA t.dn t.dc) rfl
            have c3 := TB.out.kf.cellv 3 (v := .int .i64 t.tm.lo) rfl
            have c4 := TB.out.kf.cellv 4 (v := .int .i64 t.tm.un) rfl
            have c5 := TB.out.kf.cellv 5 (v := .int .i64 t.tm.qu) rfl
            have c6 := TB.out.kf.cellv 6 (v := .int .i64 t.tm.qt) rfl
            have c7 := TB.out.kf.cellv 7 (v := .int .i64 t.tm.wi) rfl
            go_wp2_with fail
            refine (V4.out _).mono ?_
            rintro e x ⟨rfl, hb⟩
            replace TB := Lib.hid (TB.out.next hb)
            clear hb c0 c1 c2 c3 c4 c5 c6 c7
            have c0 := TB.out.kf.cellv 0 (v := .slice t.hA t.hn t.hc) rfl
            have c1 := TB.out.kf.cellv 1 (v := .slice t.pA t.pn t.pc) rfl
            have c2 := TB.out.kf.cellv 2 (v := .slice t.dA t.dn t.dc) rfl
            have c3 := TB.out.kf.cellv 3 (v := .int .i64 t.tm.lo) rfl
            have c4 := TB.out.kf.cellv 4 (v := .int .i64 t.tm.un) rfl
            have c5 := TB.out.kf.cellv 5 (v := .int .i64 t.tm.qu) rfl
            have c6 := TB.out.kf.cellv 6 (v := .int .i64 t.tm.qt) rfl
            have c7 := TB.out.kf.cellv 7 (v := .int .i64 t.tm.wi) rfl
            go_wp2_with fail
            refine (V5.out _).mono ?_
            rintro e x ⟨rfl, hb⟩
            replace TB := Lib.hid (TB.out.next hb)
            clear hb c0 c1 c2 c3 c4 c5 c6 c7
            have c0 := TB.out.kf.cellv 0 (v := .slice t.hA t.hn t.hc) rfl
            have c1 := TB.out.kf.cellv 1 (v := .slice t.pA t.pn t.pc) rfl
            have c2 := TB.out.kf.cellv 2 (v := .slice t.dA t.dn t.dc) rfl
            have c3 := TB.out.kf.cellv 3 (v := .int .i64 t.tm.lo) rfl
            have c4 := TB.out.kf.cellv 4 (v := .int .i64 t.tm.un) rfl
            have c5 := TB.out.kf.cellv 5 (v := .int .i64 t.tm.qu) rfl
            have c6 := TB.out.kf.cellv 6 (v := .int .i64 t.tm.qt) rfl
            have c7 := TB.out.kf.cellv 7 (v := .int .i64 t.tm.wi) rfl
            go_wp2_with fail
            refine (V6.out _).mono ?_
            rintro e x ⟨rfl, hb⟩
            replace TB := Lib.hid (TB.out.next hb)
            clear hb c0 c1 c2 c3 c4 c5 c6 c7
            have c0 := TB.out.kf.cellv 0 (v := .slice t.hA t.hn t.hc) rfl
            have c1 := TB.out.kf.cellv 1 (v := .slice t.pA t.pn t.pc) rfl
            have c2 := TB.out.kf.cellv 2 (v := .slice t.dA t.dn t.dc) rfl
            have c3 := TB.out.kf.cellv 3 (v := .int .i64 t.tm.lo) rfl
            have c4 := TB.out.kf.cellv 4 (v := .int .i64 t.tm.un) rfl
            have c5 := TB.out.kf.cellv 5 (v := .int .i64 t.tm.qu) rfl
            have c6 := TB.out.kf.cellv 6 (v := .int .i64 t.tm.qt) rfl
            have c7 := TB.out.kf.cellv 7 (v := .int .i64 t.tm.wi) rfl
            go_wp2
            go_ret
            exact ⟨by rw [E.out]; rfl, TB.out.bel⟩
set_option maxHeartbeats 3200000 in
theorem refNumbers_any (t : Tm) (w : World) (ht : t.In w w.heap.size) :
    Calls Try.prog 123 #[t.val] w fun e w' => e = .returned (.bool t.tm.numB) ∧ Below w.heap.size w w' := by
  have TB := Lib.hid (tbox w t)
  have h1 := ht.h1; have p1 := ht.p1; have d1 := ht.d1
  have E : Hid (t.tm.numB = (btw 3 (t.hn : Int) && btw 3 (t.pn : Int) && btw 3 (t.dn : Int) && btw 8 t.tm.lo && btw 8 t.tm.un && btw 8 t.tm.qu && btw 16 t.tm.qt && btw 64 t.tm.wi)) := by
    refine Lib.hid ?_
    unfold Team.numB
    rw [ht.h.len, ht.p.len, ht.d.len]
  generalize t.tm.numB = R at E ⊢
  clear ht
  have c0 := TB.out.kf.cellv 0 (v := .slice t.hA t.hn t.hc) rfl
  have c1 := TB.out.kf.cellv 1 (v := .slice t.pA t.pn t.pc) rfl
  have c2 := TB.out.kf.cellv 2 (v := .slice t.dA t.dn t.dc) rfl
  have c3 := TB.out.kf.cellv 3 (v := .int .i64 t.tm.lo) rfl
  have c4 := TB.out.kf.cellv 4 (v := .int .i64 t.tm.un) rfl
  have c5 := TB.out.kf.cellv 5 (v := .int .i64 t.tm.qu) rfl
  have c6 := TB.out.kf.cellv 6 (v := .int .i64 t.tm.qt) rfl
  have c7 := TB.out.kf.cellv 7 (v := .int .i64 t.tm.wi) rfl
  cases q1 : btw 3 (t.hn : Int)
  · go_enter Try.func123, Try.ntmps123
    go_wp2_with (go_at_call 134; refine (between_any _ _ _).mono ?_; rintro e x ⟨rfl, rfl⟩)
    go_ret
    exact ⟨by rw [E.out]; simp only [*] <;> rfl, TB.out.bel⟩
  · cases q2 : btw 3 (t.pn : Int)
    · go_enter Try.func123, Try.ntmps123
      go_wp2_with (go_at_call 134; refine (between_any _ _ _).mono ?_; rintro e x ⟨rfl, rfl⟩)
      go_ret
      exact ⟨by rw [E.out]; simp only [*] <;> rfl, TB.out.bel⟩
    · cases q3 : btw 3 (t.dn : Int)
      · go_enter Try.func123, Try.ntmps123
        go_wp2_with (go_at_call 134; refine (between_any _ _ _).mono ?_; rintro e x ⟨rfl, rfl⟩)
        go_ret
        exact ⟨by rw [E.out]; simp only [*] <;> rfl, TB.out.bel⟩
      · cases q4 : btw 8 t.tm.lo
        · go_enter Try.func123, Try.ntmps123
          go_wp2_with (go_at_call 134; refine (between_any _ _ _).mono ?_; rintro e x ⟨rfl, rfl⟩)
          go_ret
          exact ⟨by rw [E.out]; simp only [*] <;> rfl, TB.out.bel⟩
        · cases q5 : btw 8 t.tm.un
          · go_enter Try.func123, Try.ntmps123
            go_wp2_with (go_at_call 134; refine (between_any _ _ _).mono ?_; rintro e x ⟨rfl, rfl⟩)
            go_ret
            exact ⟨by rw [E.out]; simp only [*] <;> rfl, TB.out.bel⟩
          · cases q6 : btw 8 t.tm.qu
            · go_enter Try.func123, Try.ntmps123
              go_wp2_with (go_at_call 134; refine (between_any _ _ _).mono ?_; rintro e x ⟨rfl, rfl⟩)
              go_ret
              exact ⟨by rw [E.out]; simp only [*] <;> rfl, TB.out.bel⟩
            · cases q7 : btw 16 t.tm.qt
              · go_enter Try.func123, Try.ntmps123
                go_wp2_with (go_at_call 134; refine (between_any _ _ _).mono ?_; rintro e x ⟨rfl, rfl⟩)
                go_ret
                exact ⟨by rw [E.out]; simp only [*] <;> rfl, TB.out.bel⟩
              · go_enter Try.func123, Try.ntmps123
                go_wp2_with (go_at_call 134; refine (between_any _ _ _).mono ?_; rintro e x ⟨rfl, rfl⟩)
                go_ret
                exact ⟨by rw [E.out]; simp only [*] <;> rfl, TB.out.bel⟩
end Go.Proofs.Ytcbghchciplfcaa
