/-
  FLTEXT: the reference's functions on texts: character, value, Draw, Parse.
-/
import Derived.Test.YthehkapaipfoaaaFlRef3
import Derived.Test.YthehkapaipfoaaaTextMath
import Derived.BigQuiet
namespace Go.Proofs.Ythehkapaipfoaaa
set_option linter.unusedVariables false
set_option linter.unusedSimpArgs false
set_option maxRecDepth 100000
open Go.RowKit

theorem index_str' (s : ByteArray) (x : UInt8) (K : Int) (k : Nat) (hK : K = (k : Int)) (hx : s.data.toList[k]? = some x) (W : World) :
    (Instr.index 9 (.string s) (.int .i64 K)).run Try.prog W = .ok (.int .u8 (x.toNat : Int)) W := by
  subst hK
  have hl : k < s.data.toList.length := (List.getElem?_eq_some_iff.1 hx).1
  have hsz : k < s.size := by simpa using hl
  rw [run_index_string W 9 s .i64 (k : Int) Try.underlying9, dif_pos ⟨by omega, by omega⟩]
  have h2 : s.data.toList[k]'hl = x := by rw [List.getElem?_eq_getElem hl] at hx; exact Option.some.inj hx
  subst h2
  rfl
theorem refChar_any (c : UInt8) (w : World) (hc : cellB c = true) : Calls Try.prog 85 #[.int .u8 (c.toNat : Int)] w fun e w' => e = .returned (.int .u8 ((markB c).toNat : Int)) ∧ w = w' := by
  have hm : c.toNat = 0 ∨ c.toNat = 255 ∨ (1 ≤ c.toNat ∧ c.toNat ≤ 3) := by unfold cellB at hc; simp at hc; omega
  have hn := all_bytes (p := fun c => !cellB c || (markB c).toNat == (if c.toNat = 0 then 35 else if c.toNat = 255 then 46 else 47 + c.toNat)) (by decide +kernel) c
  rw [hc] at hn
  simp only [Bool.not_true, Bool.false_or, beq_iff_eq] at hn
  have hv : ((markB c).toNat : Int) = if (c.toNat : Int) = 0 then 35 else if (c.toNat : Int) = 255 then 46 else 47 + (c.toNat : Int) := by
    rw [hn]
    split <;> split <;> (try split) <;> (try split) <;> omega
  rw [hv]
  have m0 : (0 : Int) ≤ (c.toNat : Int) := by omega
  have hm' : (c.toNat : Int) = 0 ∨ (c.toNat : Int) = 255 ∨ (1 ≤ (c.toNat : Int) ∧ (c.toNat : Int) ≤ 3) := by omega
  clear hv hm hc
  generalize (c.toNat : Int) = m at *
  rcases hm' with h | h | ⟨h1, h3⟩
  · subst h
    go_enter Try.func85, Try.ntmps85
    go_wp2
    go_ret
    exact ⟨rfl, rfl⟩
  · subst h
    go_enter Try.func85, Try.ntmps85
    go_wp2
    go_ret
    exact ⟨rfl, rfl⟩
  · have e1 : (m == 0) = false := by rw [beq_eq_false_iff_ne]; omega
    have e2 : (m == 255) = false := by rw [beq_eq_false_iff_ne]; omega
    have hr : (if m = 0 then (35 : Int) else if m = 255 then 46 else 47 + m) = 48 + m - 1 := by rw [if_neg (by omega), if_neg (by omega)]; omega
    rw [hr]
    clear hr
    go_enter Try.func85, Try.ntmps85
    go_wp2
    go_ret
    exact ⟨rfl, rfl⟩

def valsL : List UInt8 := [0, 1, 2, 3, 255]
theorem vals_cell {x : UInt8} {k : Nat} (h : valsL[k]? = some x) : cellB x = true := by
  have := List.mem_of_getElem? h
  simp only [valsL, List.mem_cons, List.not_mem_nil, or_false] at this
  rcases this with rfl | rfl | rfl | rfl | rfl <;> decide
theorem cellC_cell {c x : UInt8} (h : cellC c = some x) : x ∈ valsL := by
  have := all_bytes (p := fun c => match cellC c with | some x => decide (x ∈ valsL) | none => true) (by decide +kernel) c
  rw [h] at this
  simpa using this
set_option maxHeartbeats 1600000 in
theorem refValue_any (c : UInt8) (w : World) : Calls Try.prog 86 #[.int .u8 (c.toNat : Int)] w fun e w' => e = .returned (.tuple #[.int .u8 ((((cellC c).getD 0).toNat : Nat) : Int), .bool (cellC c).isSome]) ∧ Below w.heap.size w w' := by
  have HR := Lib.hid (lit_reads w 5 valsL #[.int .u8 0, .int .u8 1, .int .u8 2, .int .u8 3, .int .u8 255] rfl)
  have B := Lib.hid ((Below.refl w.heap.size w).alloc (Nat.le_refl _) (.cells #[.int .u8 0, .int .u8 1, .int .u8 2, .int .u8 3, .int .u8 255] 5))
  have C := Lib.hid (fun (x : UInt8) (h : cellB x = true) W => refChar_any x W h)
  obtain ⟨R, hR⟩ : ∃ R : Value, R = .tuple #[.int .u8 ((((cellC c).getD 0).toNat : Nat) : Int), .bool (cellC c).isSome] := ⟨_, rfl⟩
  rw [← hR]
  have HRR := Lib.hid hR
  clear hR
  obtain ⟨m, hm⟩ : ∃ m : Int, m = (c.toNat : Int) := ⟨_, rfl⟩
  rw [← hm]
  have HM := Lib.hid hm
  clear hm
  go_enter Try.func86, Try.ntmps86
  go_wp2
  go_loop [5] (fun i => ∃ k : Nat, k ≤ 5 ∧ i = .int .i64 (k : Int) ∧ Hid (∀ j x, j < k → valsL[j]? = some x → markB x ≠ c)) (fun i => 5 - (intOf i).toNat)
  case atStart => exact ⟨0, Nat.zero_le _, rfl, Lib.hid (fun j x hj => absurd hj (by omega))⟩
  case round =>
    obtain ⟨k, hk, rfl, hno⟩ := hrel
    by_cases hlt : k < 5
    · obtain ⟨ad, x, hA, had, hx, hcx⟩ := cells_at HR.out (show k < valsL.length from hlt)
      injection hA with hA
      subst hA
      have HX := Lib.hid hx
      have C1 := Lib.hid (C.out x (vals_cell hx))
      rw [add_zero_off] at hcx
      clear hx had
      have k0 : (0 : Int) ≤ (k : Int) := by omega
      have k1 : (k : Int) < 5 := by omega
      by_cases he : markB x = c
      · have e1 : (((markB x).toNat : Int) == m) = true := by rw [HM.out, he]; simp
        have HE := Lib.hid he
        clear he
        obtain ⟨mx, hmx⟩ : ∃ mx : Int, mx = ((markB x).toNat : Int) := ⟨_, rfl⟩
        rw [← hmx] at e1 C1
        clear hmx
        go_wp2_with fail
        refine (C1.out _).mono ?_
        rintro e w2 ⟨rfl, rfl⟩
        go_wp2
        go_ret2
        have hc : cellC c = some x := by rw [← HE.out]; exact (cellC_mark (vals_cell HX.out)).1
        exact ⟨by rw [HRR.out, hc]; rfl, B.out⟩
      · have e1 : (((markB x).toNat : Int) == m) = false := by
          rw [HM.out, beq_eq_false_iff_ne]
          intro h
          exact he (UInt8.toNat_inj.1 (by omega))
        have HE := Lib.hid he
        clear he
        obtain ⟨mx, hmx⟩ : ∃ mx : Int, mx = ((markB x).toNat : Int) := ⟨_, rfl⟩
        rw [← hmx] at e1 C1
        clear hmx
        go_wp2_with fail
        refine (C1.out _).mono ?_
        rintro e w2 ⟨rfl, rfl⟩
        go_wp2
        go_round
        case rel => exact ⟨k + 1, by omega, by go_num, Lib.hid (fun j y hj hy => by
            rcases Nat.lt_or_ge j k with h | h
            · exact hno.out j y h hy
            · obtain rfl : j = k := by omega
              have := HX.out
              rw [hy] at this
              injection this with this
              rw [this]
              exact HE.out)⟩
        case measure => simp [intOf]; omega
    · obtain rfl : k = 5 := by omega
      go_wp2
      go_ret2
      have hc : cellC c = none := by
        cases hc : cellC c with
        | none => rfl
        | some x =>
          obtain ⟨j, hj, e⟩ := List.getElem_of_mem (cellC_cell hc)
          exact absurd (mark_cellC hc) (hno.out j x hj (by rw [List.getElem?_eq_getElem hj, e]))
      exact ⟨by rw [HRR.out, hc]; rfl, B.out⟩

set_option maxHeartbeats 3200000 in
theorem refDraw_any (a b : Int) (A : Option Addr) (n c : Nat) (l : List UInt8) (w : World) (hr : Reads w w.heap.size 1 A n (bv l)) (hn : n ≤ 140737488351232) :
    Calls Try.prog 53 #[.agg #[.int .i64 a, .int .i64 b, .slice A n c]] w fun e w' => e = .returned (.tuple #[.string ⟨(drawS a b l).1.toArray⟩, .int .i64 (drawS a b l).2]) ∧ Below w.heap.size w w' := by
  obtain ⟨i0, hi, hz0, hz1, hz2⟩ := info_parts u8_info'
  have hlen : l.length = n := by have := hr.1; simpa using this
  have FB := Lib.hid (fbox w a b (.slice A n c))
  have RR := Lib.hid (fun W (hb : Below w.heap.size w W) => (hr.below hb).more hb.size)
  have V := Lib.hid (fun W (hb : Below w.heap.size w W) => validFloor_any a b A n c l W (RR.out W hb) hn)
  cases hv : floorB a b l
  · rw [show drawS a b l = ([], 50) from by unfold drawS; rw [hv]; rfl]
    rw [hv] at V
    clear hv hr hlen
    go_enter Try.func53, Try.ntmps53
    go_wp2_with fail
    refine (V.out _ FB.out.bel).mono ?_
    rintro e x ⟨rfl, hx⟩
    replace FB := Lib.hid (FB.out.next hx)
    clear hx
    go_wp2
    go_ret2
    exact ⟨rfl, FB.out.bel⟩
  · rw [show drawS a b l = (drawTo l a n, 0) from by unfold drawS; rw [hv, hlen]; rfl]
    rw [hv] at V
    have hll := floorB_len hv
    obtain ⟨⟨ha, hb⟩, hab, hall⟩ := floorB_yes hv
    have C := Lib.hid (fun (x : UInt8) (hx : cellB x = true) W => refChar_any x W hx)
    have HL := Lib.hid hlen; have HA := Lib.hid hall
    have hnn : n ≤ 64 := by omega
    obtain ⟨a2, a8⟩ := ha
    clear hv hr hlen hll hall hb hab
    go_enter Try.func53, Try.ntmps53
    go_wp2_with fail
    refine (V.out _ FB.out.bel).mono ?_
    rintro e x ⟨rfl, hx⟩
    have hN := hx.mono (show w.heap.size + 1 ≤ (w.alloc (.cells #[.int .i64 a, .int .i64 b, .slice A n c] 34)).heap.size by simp)
    have NX := Lib.hid hN
    clear hx hN
    replace FB := Lib.hid (fbox_of NX.out)
    have c2 := FB.out.kf.cellv 2 (v := .slice A n c) rfl
    go_wp2
    clear c2
    go_loopw [4, 5] (fun u i wr => ∃ k : Nat, k ≤ n ∧ i = .int .i64 (k : Int) ∧ Hid (wr.ownsRow (w.heap.size + 1) 5 1 u (drawTo l a k).length (bv (drawTo l a k))) ∧ Hid (Below (w.heap.size + 1) (w.alloc (.cells #[.int .i64 a, .int .i64 b, .slice A n c] 34)) wr))
      (fun _ i _ => n - (intOf i).toNat)
    case atStart => exact ⟨0, Nat.zero_le _, rfl, Lib.hid (World.ownsRow_nil _ _ _ _), NX⟩
    case round =>
      obtain ⟨k, hk, rfl, how, hnx⟩ := hrel
      clear FB NX
      have FB := Lib.hid (fbox_of hnx.out)
      have hsz := hnx.out.size
      simp only [World.size_alloc] at hsz
      have hle := drawTo_le l a k
      have c2 := FB.out.kf.cellv 2 (v := .slice A n c) rfl
      have k0 : (0 : Int) ≤ (k : Int) := by omega
      by_cases hlt : k < n
      · obtain ⟨ad, x, hA, had, hx, hcx⟩ := cells_at (RR.out _ FB.out.bel) hlt
        subst hA
        have hcb : cellB x = true := List.all_eq_true.1 HA.out x (List.mem_of_getElem? hx)
        have HX := Lib.hid hx; have HCB := Lib.hid hcb
        have k1 : (k : Int) < (n : Int) := by omega
        clear hx hcb had
        go_wp2_with fail
        refine (C.out x HCB.out _).mono ?_
        rintro e w2 ⟨rfl, rfl⟩
        clear c2
        go_wp2_with (at_builtin; refine wpList_append_any _ rfl _ _ 32 rfl (w.heap.size + 1) 5 i0 (.int .u8 0) 1 1 Try.underlying32 hi hz0 hz1 hz2 rfl (by decide) _ _ _ rfl (how.out.alloc _) (wr.heap.size + 1) _ 1 1 _ rfl (reads_new1 (u := u8v (markB x)) _ _ rfl) (bv_oneCell [_]) (by unfold maxLen; omega) (by omega) (by simp; omega) ?_; intro v1 w3 hown1 hg1 _; have hx1 : Below (w.heap.size + 1) (w.alloc (.cells #[.int .i64 a, .int .i64 b, .slice (some ad) n c] 34)) w3 := (hnx.out.alloc hsz _).grown hg1 (by simp; omega) (fun y hy => (how.out.lt y hy).1); have HX1 := Lib.hid hx1; have HO1 := Lib.hid hown1; have c0 := (fbox_of hx1).kf.cellv 0 (v := .int .i64 a) rfl; clear hx1 hown1 hg1)
        have hs3 := HX1.out.size
        simp only [World.size_alloc] at hs3
        have az : (a == 0) = false := by rw [beq_eq_false_iff_ne]; omega
        by_cases hm : (k : Int) % a = a - 1
        · have hp := drawTo_lf HX.out hm
          have hq : ((k : Int) % a == a - 1) = true := by simpa using hm
          have hq2 : ((k : Int).tmod a == a - 1) = true := by rw [Int.tmod_eq_emod_of_nonneg k0]; exact hq
          have HP := Lib.hid hp
          clear hp hm
          go_quiet (fail)
          go_wp2_with (at_builtin; refine wpList_append_any _ rfl _ _ 32 rfl (w.heap.size + 1) 5 i0 (.int .u8 0) 1 1 Try.underlying32 hi hz0 hz1 hz2 rfl (by decide) _ _ _ rfl ((show (w3.drewN nq).ownsRow _ _ _ _ _ _ from HO1.out).alloc _) ((w3.drewN nq).heap.size + 1) _ 1 1 _ rfl (reads_new1 (u := u8v 10) _ _ rfl) (bv_oneCell [_]) (by unfold maxLen; omega) (by omega) (by simp; omega) ?_; intro v5 w5 hown5 hg5 _)
          have R : w5.ownsRow (w.heap.size + 1) 5 1 v5 (drawTo l a (k + 1)).length (bv (drawTo l a (k + 1))) := by
            rw [HP.out, bv_append, bv_append, List.length_append, List.length_append]
            exact hown5
          have hnx5 : Below (w.heap.size + 1) (w.alloc (.cells #[.int .i64 a, .int .i64 b, .slice (some ad) n c] 34)) w5 := ((below_drewN HX1.out nq).alloc (by simpa using hs3) _).grown hg5 (by simp; omega) (fun y hy => (HO1.out.lt y hy).1)
          go_roundw
          case rel => exact ⟨k + 1, by omega, by go_num, Lib.hid R, Lib.hid hnx5⟩
          case measure => simp [intOf]; omega
        · have hp := drawTo_no HX.out hm
          have hq : ((k : Int) % a == a - 1) = false := by simpa using hm
          have hq2 : ((k : Int).tmod a == a - 1) = false := by rw [Int.tmod_eq_emod_of_nonneg k0]; exact hq
          have HP := Lib.hid hp
          clear hp hm
          go_quiet (fail)
          go_wp2
          go_roundw
          case rel => exact ⟨k + 1, by omega, by go_num, Lib.hid (by rw [HP.out, bv_append, List.length_append]; exact HO1.out), Lib.hid (below_drewN HX1.out nq)⟩
          case measure => simp [intOf]; omega
      · obtain rfl : k = n := by omega
        obtain ⟨A1, c1, rfl, h1, h2, _⟩ := own_form how.out
        have q1 := run_str (P := Try.prog) 32 5 9 Try.underlying32 Try.underlying5 Try.underlying9 (c := c1) (Reads.of_own how.out)
        go_wp2
        go_ret2
        exact ⟨rfl, FB.out.bel⟩
end Go.Proofs.Ythehkapaipfoaaa
