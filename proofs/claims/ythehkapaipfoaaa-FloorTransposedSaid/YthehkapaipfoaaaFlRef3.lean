/-
  FLREF3: the reference's functions on floors: Own, Aisle, Owner, Private, Aisles.
-/
import Derived.Test.YthehkapaipfoaaaFlRef
import Derived.Laws.OwnMore
namespace Go.Proofs.Ythehkapaipfoaaa
set_option linter.unusedVariables false
set_option linter.unusedSimpArgs false
set_option maxRecDepth 100000
open Go.RowKit

/-- a floor in a variable of the call's own. -/
structure FBox (w X : World) (a b : Int) (v : Value) : Prop where
  kf : Blk X w.heap.size 34 (b3 a b v)
  bel : Below w.heap.size w X
theorem FBox.next {w X X' : World} {a b : Int} {v : Value} (h : FBox w X a b v) (hb : Below X.heap.size X X') : FBox w X' a b v := ⟨h.kf.below hb h.kf.lt, h.bel.trans (hb.mono h.bel.size)⟩
theorem fbox (w : World) (a b : Int) (v : Value) : FBox w (w.alloc (.cells #[.int .i64 a, .int .i64 b, v] 34)) a b v := ⟨Blk.new w 34 (b3 a b v), (Below.refl _ _).alloc (Nat.le_refl _) _⟩

theorem ownerS_eq' (c : UInt8) : ownerS c = if (c.toNat : Int) = 255 then -2 else (c.toNat : Int) - 1 := by
  unfold ownerS
  by_cases h0 : c.toNat = 0
  · rw [if_pos h0, if_neg (by omega)]; omega
  · rw [if_neg h0]
    by_cases h1 : c.toNat = 255
    · rw [if_pos h1, if_pos (by omega)]
    · rw [if_neg h1, if_neg (by omega)]
theorem own_iff {x : UInt8} {t : Int} (h0 : 0 ≤ t) (h3 : t < 3) : ((x.toNat : Int) == t + 1) = decide (ownerS x = t) := by
  rw [ownerS_eq']
  have := x.toNat_lt
  by_cases h : (x.toNat : Int) = 255
  · rw [if_pos h, decide_eq_false (by omega)]; simp; omega
  · rw [if_neg h]
    by_cases h2 : (x.toNat : Int) - 1 = t
    · rw [decide_eq_true h2]; simp; omega
    · rw [decide_eq_false h2]; simp; omega
theorem aisle_iff {x : UInt8} : ((x.toNat : Int) == 255) = decide (ownerS x = -2) := by
  rw [ownerS_eq']
  by_cases h : (x.toNat : Int) = 255
  · rw [if_pos h, decide_eq_true rfl]; simp; omega
  · rw [if_neg h, decide_eq_false (by omega)]; simp; omega

theorem refOwn_any (a b : Int) (A : Option Addr) (n c : Nat) (l : List UInt8) (t : Int) (k : Nat) (y : UInt8) (w : World) (hr : Reads w w.heap.size 1 A n (bv l)) (hn : n ≤ 140737488351232) (hy : l[k]? = some y) (t0 : 0 ≤ t) (t3 : t < 3) :
    Calls Try.prog 82 #[.agg #[.int .i64 a, .int .i64 b, .slice A n c], .int .i64 t, .int .i64 (k : Int)] w fun e w' => e = .returned (.bool (decide (ownerS y = t))) ∧ Below w.heap.size w w' := by
  have hlen : l.length = n := by have := hr.1; simpa using this
  have hk : k < n := by
    rcases Nat.lt_or_ge k l.length with h | h
    · omega
    · rw [List.getElem?_eq_none h] at hy; cases hy
  have B := Lib.hid (fbox w a b (.slice A n c))
  obtain ⟨ad, x, rfl, had, hx, hcx⟩ := cells_at (hr.below B.out.bel) hk
  obtain rfl : x = y := by rw [hx] at hy; injection hy
  rw [← own_iff t0 t3]
  have k0 : (0 : Int) ≤ (k : Int) := by omega
  have k1 : (k : Int) < (n : Int) := by omega
  have d1 : decide (0 ≤ t) = true := decide_eq_true t0
  have d2 : decide (t < 3) = true := decide_eq_true t3
  obtain ⟨m, hm⟩ : ∃ m : Int, m = (x.toNat : Int) := ⟨_, rfl⟩
  have m1 : m ≤ 255 := by have := x.toNat_lt; omega
  have m0 : 0 ≤ m := by omega
  rw [← hm] at hcx ⊢
  clear hm hr hy hx hlen
  go_enter Try.func82, Try.ntmps82
  go_wp2
  go_ret
  exact ⟨rfl, B.out.bel⟩
theorem refAisle_any (a b : Int) (A : Option Addr) (n c : Nat) (l : List UInt8) (k : Nat) (y : UInt8) (w : World) (hr : Reads w w.heap.size 1 A n (bv l)) (hn : n ≤ 140737488351232) (hy : l[k]? = some y) :
    Calls Try.prog 83 #[.agg #[.int .i64 a, .int .i64 b, .slice A n c], .int .i64 (k : Int)] w fun e w' => e = .returned (.bool (decide (ownerS y = -2))) ∧ Below w.heap.size w w' := by
  have hlen : l.length = n := by have := hr.1; simpa using this
  have hk : k < n := by
    rcases Nat.lt_or_ge k l.length with h | h
    · omega
    · rw [List.getElem?_eq_none h] at hy; cases hy
  have B := Lib.hid (fbox w a b (.slice A n c))
  obtain ⟨ad, x, rfl, had, hx, hcx⟩ := cells_at (hr.below B.out.bel) hk
  obtain rfl : x = y := by rw [hx] at hy; injection hy
  rw [← aisle_iff]
  have k0 : (0 : Int) ≤ (k : Int) := by omega
  have k1 : (k : Int) < (n : Int) := by omega
  obtain ⟨m, hm⟩ : ∃ m : Int, m = (x.toNat : Int) := ⟨_, rfl⟩
  have m1 : m ≤ 255 := by have := x.toNat_lt; omega
  have m0 : 0 ≤ m := by omega
  rw [← hm] at hcx ⊢
  clear hm hr hy hx hlen
  go_enter Try.func83, Try.ntmps83
  go_wp2
  go_ret
  exact ⟨rfl, B.out.bel⟩

set_option maxHeartbeats 3200000 in
theorem refOwner_any (a b : Int) (A : Option Addr) (n c : Nat) (l : List UInt8) (p : Int) (w : World) (hr : Reads w w.heap.size 1 A n (bv l)) (hn : n ≤ 140737488351232) :
    Calls Try.prog 45 #[.agg #[.int .i64 a, .int .i64 b, .slice A n c], .int .i64 p] w fun e w' => e = .returned (.tuple #[.int .i64 (ownS a b l p).1, .int .i64 (ownS a b l p).2]) ∧ Below w.heap.size w w' := by
  have hlen : l.length = n := by have := hr.1; simpa using this
  have FB := Lib.hid (fbox w a b (.slice A n c))
  have RR := Lib.hid (fun W (hb : Below w.heap.size w W) => (hr.below hb).more hb.size)
  have V := Lib.hid (fun W (hb : Below w.heap.size w W) => validFloor_any a b A n c l W (RR.out W hb) hn)
  have O := Lib.hid (fun W => on_any a b p W)
  cases hv : floorB a b l
  · rw [show ownS a b l p = (0, 50) from by unfold ownS; rw [hv]; rfl]
    rw [hv] at V
    clear hv hr hlen
    go_enter Try.func45, Try.ntmps45
    go_wp2_with fail
    refine (V.out _ FB.out.bel).mono ?_
    rintro e x ⟨rfl, hx⟩
    have FB := Lib.hid (FB.out.next hx)
    clear hx
    go_wp2
    go_ret2
    exact ⟨rfl, FB.out.bel⟩
  · rw [hv] at V
    obtain ⟨⟨ha, hb⟩, hab, hall⟩ := floorB_yes hv
    have hg : gridB a b = true := (gridB_iff _ _).2 ⟨ha, hb⟩
    by_cases hp : 0 ≤ p ∧ p < (l.length : Int)
    · rw [show onB a b p = true from (onB_iff _ _ _).2 ⟨⟨ha, hb⟩, by omega, by omega⟩] at O
      obtain ⟨k, rfl⟩ := Int.eq_ofNat_of_zero_le hp.1
      obtain ⟨y, hy⟩ : ∃ y, l[k]? = some y := ⟨l[k]'(by omega), List.getElem?_eq_getElem _⟩
      rw [show ownS a b l (k : Int) = (ownerS y, 0) from by unfold ownS; rw [hv, if_pos rfl, if_pos hp]; simp [hy]]
      have OW := Lib.hid (fun (t : Int) (t0 : 0 ≤ t) (t3 : t < 3) W (hb : Below w.heap.size w W) => refOwn_any a b A n c l t k y W (RR.out W hb) hn hy t0 t3)
      have AI := Lib.hid (fun W (hb : Below w.heap.size w W) => refAisle_any a b A n c l k y W (RR.out W hb) hn hy)
      have hcy : cellB y = true := List.all_eq_true.1 hall y (List.mem_of_getElem? hy)
      have HCY := Lib.hid hcy
      obtain ⟨R, hR⟩ : ∃ R, R = ownerS y := ⟨_, rfl⟩
      have HRR := Lib.hid hR
      rw [← hR]
      rw [← hR] at OW AI
      have hrr : R = -2 ∨ (-1 ≤ R ∧ R < 3) := by
        rw [hR, ownerS_eq']
        have : y.toNat ≤ 3 ∨ y.toNat = 255 := by unfold cellB at hcy; simpa using hcy
        split <;> omega
      have HX := Lib.hid hrr
      clear hv hr hlen hR hrr hcy hy hall hg hab ha hb hp
      go_enter Try.func45, Try.ntmps45
      go_wp2_with fail
      refine (V.out _ FB.out.bel).mono ?_
      rintro e x ⟨rfl, hx⟩
      replace FB := Lib.hid (FB.out.next hx)
      clear hx
      have c0 := FB.out.kf.cellv 0 (v := .int .i64 a) rfl
      have c1 := FB.out.kf.cellv 1 (v := .int .i64 b) rfl
      have c2 := FB.out.kf.cellv 2 (v := .slice A n c) rfl
      go_wp2_with fail
      refine (O.out _).mono ?_
      rintro e x ⟨rfl, rfl⟩
      go_wp2
      clear c0 c1 c2
      go_loopw [6] (fun t wr => ∃ j : Nat, j ≤ 3 ∧ t = .int .i64 (j : Int) ∧ Hid (∀ i : Nat, i < j → R ≠ (i : Int)) ∧ Hid (FBox w wr a b (.slice A n c)))
        (fun t _ => 3 - (intOf t).toNat)
      case atStart => exact ⟨0, by omega, rfl, Lib.hid (fun i hi => absurd hi (by omega)), FB⟩
      case round =>
        obtain ⟨j, hj, rfl, hno, hFB⟩ := hrel
        clear FB
        have FB := hFB
        clear hFB
        have c0 := FB.out.kf.cellv 0 (v := .int .i64 a) rfl
        have c1 := FB.out.kf.cellv 1 (v := .int .i64 b) rfl
        have c2 := FB.out.kf.cellv 2 (v := .slice A n c) rfl
        by_cases hj3 : j < 3
        · by_cases he : R = (j : Int)
          · have O1 := Lib.hid (fun W hb => OW.out (j : Int) (by omega) (by omega) W hb)
            rw [decide_eq_true he] at O1
            have HE := Lib.hid he
            clear he
            go_wp2_with fail
            refine (O1.out _ FB.out.bel).mono ?_
            rintro e x ⟨rfl, hb⟩
            replace FB := Lib.hid (FB.out.next hb)
            clear hb c0 c1 c2
            go_wp2
            go_ret2
            exact ⟨by rw [HE.out]; rfl, FB.out.bel⟩
          · have O1 := Lib.hid (fun W hb => OW.out (j : Int) (by omega) (by omega) W hb)
            rw [decide_eq_false he] at O1
            have HE := Lib.hid he
            clear he
            go_wp2_with fail
            refine (O1.out _ FB.out.bel).mono ?_
            rintro e x ⟨rfl, hb⟩
            replace FB := Lib.hid (FB.out.next hb)
            clear hb c0 c1 c2
            go_wp2
            go_roundw
            case rel => exact ⟨j + 1, by omega, by go_num, Lib.hid (fun i hi => by
                rcases Nat.lt_or_ge i j with h | h
                · exact hno.out i h
                · obtain rfl : i = j := by omega
                  exact HE.out), FB⟩
            case measure => simp [intOf]; omega
        · obtain rfl : j = 3 := by omega
          rcases HX.out with he | he
          · have A1 := AI
            rw [decide_eq_true he] at A1
            have HE := Lib.hid he
            clear he
            go_wp2_with fail
            refine (A1.out _ FB.out.bel).mono ?_
            rintro e x ⟨rfl, hb⟩
            replace FB := Lib.hid (FB.out.next hb)
            clear hb c0 c1 c2
            go_wp2
            go_ret2
            exact ⟨by rw [HE.out]; rfl, FB.out.bel⟩
          · have h0 := hno.out 0 (by omega); have h1 := hno.out 1 (by omega); have h2 := hno.out 2 (by omega)
            have he' : R = -1 := by omega
            have A1 := AI
            rw [decide_eq_false (by omega)] at A1
            have HE := Lib.hid he'
            clear he h0 h1 h2 he'
            go_wp2_with fail
            refine (A1.out _ FB.out.bel).mono ?_
            rintro e x ⟨rfl, hb⟩
            replace FB := Lib.hid (FB.out.next hb)
            clear hb c0 c1 c2
            go_wp2
            go_ret2
            exact ⟨by rw [HE.out]; rfl, FB.out.bel⟩
    · have ho : onB a b p = false := by
        cases ho : onB a b p
        · rfl
        · have := (onB_iff _ _ _).1 ho; exact absurd ⟨this.2.1, by omega⟩ hp
      rw [ho] at O
      rw [show ownS a b l p = (0, 2) from by unfold ownS; rw [hv, if_pos rfl, if_neg hp]]
      clear hv hr hlen ho hp hg hab hall
      go_enter Try.func45, Try.ntmps45
      go_wp2_with fail
      refine (V.out _ FB.out.bel).mono ?_
      rintro e x ⟨rfl, hx⟩
      replace FB := Lib.hid (FB.out.next hx)
      clear hx
      have c0 := FB.out.kf.cellv 0 (v := .int .i64 a) rfl
      have c1 := FB.out.kf.cellv 1 (v := .int .i64 b) rfl
      have c2 := FB.out.kf.cellv 2 (v := .slice A n c) rfl
      go_wp2_with fail
      refine (O.out _).mono ?_
      rintro e x ⟨rfl, rfl⟩
      go_wp2
      go_ret2
      exact ⟨rfl, FB.out.bel⟩
theorem fbox_of {w X : World} {a b : Int} {v : Value} (h : Below (w.heap.size + 1) (w.alloc (.cells #[.int .i64 a, .int .i64 b, v] 34)) X) : FBox w X a b v :=
  ⟨(Blk.new w 34 (b3 a b v)).below h (by omega), ((Below.refl _ _).alloc (Nat.le_refl _) _).trans (h.mono (by omega))⟩

set_option maxHeartbeats 3200000 in
theorem refPriv_ok (a b : Int) (A : Option Addr) (n c : Nat) (l : List UInt8) (t : Int) (w : World) (hr : Reads w w.heap.size 1 A n (bv l)) (hn : n ≤ 140737488351232) (hv : floorB a b l = true) (t0 : 0 ≤ t) (t3 : t < 3) :
    Calls Try.prog 47 #[.agg #[.int .i64 a, .int .i64 b, .slice A n c], .int .i64 t] w fun e w' => ∃ v', e = .returned (.tuple #[v', .int .i64 0]) ∧ w'.ownsRow w.heap.size 3 1 v' (placesS l t).length (iv (placesS l t)) ∧ Below w.heap.size w w' := by
  obtain ⟨i0, hi, hz0, hz1, hz2⟩ := info_parts int_info
  have hlen : l.length = n := by have := hr.1; simpa using this
  have FB := Lib.hid (fbox w a b (.slice A n c))
  have RR := Lib.hid (fun W (hb : Below w.heap.size w W) => (hr.below hb).more hb.size)
  have V := Lib.hid (fun W (hb : Below w.heap.size w W) => validFloor_any a b A n c l W (RR.out W hb) hn)
  have hll := floorB_len hv
  rw [hv] at V
  have OW := Lib.hid (fun (k : Nat) (y : UInt8) (hy : l[k]? = some y) W (hb : Below w.heap.size w W) => refOwn_any a b A n c l t k y W (RR.out W hb) hn hy t0 t3)
  have HL := Lib.hid hlen
  have hnn : n ≤ 64 := by omega
  have d1 : decide (t < 0) = false := decide_eq_false (by omega)
  have d2 : decide (3 ≤ t) = false := decide_eq_false (by omega)
  clear hv hr hlen hll
  go_enter Try.func47, Try.ntmps47
  go_wp2_with fail
  refine (V.out _ FB.out.bel).mono ?_
  rintro e x ⟨rfl, hx⟩
  have hN := hx.mono (show w.heap.size + 1 ≤ (w.alloc (.cells #[.int .i64 a, .int .i64 b, .slice A n c] 34)).heap.size by simp)
  have NX := Lib.hid hN
  have hsz0 := hx.size
  simp only [World.size_alloc] at hsz0
  have HS0 := Lib.hid hsz0
  clear hx hN hsz0
  replace FB := Lib.hid (fbox_of NX.out)
  have c0 := FB.out.kf.cellv 0 (v := .int .i64 a) rfl
  have c1 := FB.out.kf.cellv 1 (v := .int .i64 b) rfl
  have c2 := FB.out.kf.cellv 2 (v := .slice A n c) rfl
  go_wp2
  clear c0 c1 c2
  go_loopw [6, 7] (fun u i wr => ∃ k : Nat, k ≤ n ∧ i = .int .i64 (k : Int) ∧ Hid (wr.ownsRow (w.heap.size + 1) 3 1 u (placesTo l t k).length (iv (placesTo l t k))) ∧ Hid (Below (w.heap.size + 1) (w.alloc (.cells #[.int .i64 a, .int .i64 b, .slice A n c] 34)) wr))
    (fun _ i _ => n - (intOf i).toNat)
  case atStart => exact ⟨0, Nat.zero_le _, rfl, Lib.hid (World.ownsRow_nil _ _ _ _), NX⟩
  case round =>
    obtain ⟨k, hk, rfl, how, hnx⟩ := hrel
    clear FB NX HS0
    have FB := Lib.hid (fbox_of hnx.out)
    have hsz := hnx.out.size
    simp only [World.size_alloc] at hsz
    have hle := placesTo_le l t k
    have k0 : (0 : Int) ≤ (k : Int) := by omega
    have c0 := FB.out.kf.cellv 0 (v := .int .i64 a) rfl
    have c1 := FB.out.kf.cellv 1 (v := .int .i64 b) rfl
    have c2 := FB.out.kf.cellv 2 (v := .slice A n c) rfl
    by_cases hlt : k < n
    · have k1 : (k : Int) < (n : Int) := by omega
      obtain ⟨y, hy⟩ : ∃ y, l[k]? = some y := ⟨l[k]'(by rw [HL.out]; exact hlt), List.getElem?_eq_getElem _⟩
      have O1 := Lib.hid (fun W hb => OW.out k y hy W hb)
      by_cases hh : ownerS y = t
      · have hp := placesTo_yes hy hh
        rw [decide_eq_true hh] at O1
        have HP := Lib.hid hp
        clear hh hp hy
        go_wp2_with fail
        refine (O1.out _ FB.out.bel).mono ?_
        rintro e w2 ⟨rfl, hb2⟩
        have how2 := own_below how.out hb2 (fun g hg => (how.out.lt g hg).2)
        have hnx2 := hnx.out.trans (hb2.mono (by omega))
        have hs2 := hb2.size
        have HO2 := Lib.hid how2; have NX2 := Lib.hid hnx2
        clear how2 hnx2 hb2 c0 c1 c2
        go_wp2_with (at_builtin; refine wpList_append_any _ rfl _ _ 36 rfl (w.heap.size + 1) 3 i0 (.int .i64 0) 1 8 Try.underlying36 hi hz0 hz1 hz2 rfl (by decide) _ _ _ rfl (HO2.out.alloc _) (w2.heap.size + 1) _ 1 1 _ rfl (reads_new1 _ _ rfl) (iv_oneCell [_]) (by unfold maxLen; omega) (by omega) (by simp; omega) ?_; intro v1 w1 hown1 hg1 _)
        have R : w1.ownsRow (w.heap.size + 1) 3 1 v1 (placesTo l t (k + 1)).length (iv (placesTo l t (k + 1))) := by
          rw [HP.out, iv_append, List.length_append]
          exact hown1
        have hnx1 : Below (w.heap.size + 1) (w.alloc (.cells #[.int .i64 a, .int .i64 b, .slice A n c] 34)) w1 := (NX2.out.alloc (by omega) _).grown hg1 (by simp; omega) (fun g hg => (HO2.out.lt g hg).1)
        go_roundw
        case rel => exact ⟨k + 1, by omega, by go_num, Lib.hid R, Lib.hid hnx1⟩
        case measure => simp [intOf]; omega
      · have hp := placesTo_no hy hh
        rw [decide_eq_false hh] at O1
        have HP := Lib.hid hp
        clear hp hy hh
        go_wp2_with fail
        refine (O1.out _ FB.out.bel).mono ?_
        rintro e w2 ⟨rfl, hb2⟩
        have how2 := own_below how.out hb2 (fun g hg => (how.out.lt g hg).2)
        have hnx2 := hnx.out.trans (hb2.mono (by omega))
        have HO2 := Lib.hid how2; have NX2 := Lib.hid hnx2
        clear how2 hnx2 hb2 c0 c1 c2
        go_wp2
        go_roundw
        case rel => exact ⟨k + 1, by omega, by go_num, Lib.hid (by rw [HP.out]; exact HO2.out), NX2⟩
        case measure => simp [intOf]; omega
    · obtain rfl : k = n := by omega
      go_wp2
      go_ret2
      exact ⟨_, rfl, by unfold placesS; rw [HL.out]; exact own_more how.out (by omega), FB.out.bel⟩

set_option maxHeartbeats 3200000 in
theorem refAisl_ok (a b : Int) (A : Option Addr) (n c : Nat) (l : List UInt8) (w : World) (hr : Reads w w.heap.size 1 A n (bv l)) (hn : n ≤ 140737488351232) (hv : floorB a b l = true) :
    Calls Try.prog 50 #[.agg #[.int .i64 a, .int .i64 b, .slice A n c]] w fun e w' => ∃ v', e = .returned (.tuple #[v', .int .i64 0]) ∧ w'.ownsRow w.heap.size 3 1 v' (placesS l (-2)).length (iv (placesS l (-2))) ∧ Below w.heap.size w w' := by
  obtain ⟨i0, hi, hz0, hz1, hz2⟩ := info_parts int_info
  have hlen : l.length = n := by have := hr.1; simpa using this
  have FB := Lib.hid (fbox w a b (.slice A n c))
  have RR := Lib.hid (fun W (hb : Below w.heap.size w W) => (hr.below hb).more hb.size)
  have V := Lib.hid (fun W (hb : Below w.heap.size w W) => validFloor_any a b A n c l W (RR.out W hb) hn)
  have hll := floorB_len hv
  rw [hv] at V
  have OW := Lib.hid (fun (k : Nat) (y : UInt8) (hy : l[k]? = some y) W (hb : Below w.heap.size w W) => refAisle_any a b A n c l k y W (RR.out W hb) hn hy)
  have HL := Lib.hid hlen
  have hnn : n ≤ 64 := by omega
  clear hv hr hlen hll
  go_enter Try.func50, Try.ntmps50
  go_wp2_with fail
  refine (V.out _ FB.out.bel).mono ?_
  rintro e x ⟨rfl, hx⟩
  have hN := hx.mono (show w.heap.size + 1 ≤ (w.alloc (.cells #[.int .i64 a, .int .i64 b, .slice A n c] 34)).heap.size by simp)
  have NX := Lib.hid hN
  have hsz0 := hx.size
  simp only [World.size_alloc] at hsz0
  have HS0 := Lib.hid hsz0
  clear hx hN hsz0
  replace FB := Lib.hid (fbox_of NX.out)
  have c0 := FB.out.kf.cellv 0 (v := .int .i64 a) rfl
  have c1 := FB.out.kf.cellv 1 (v := .int .i64 b) rfl
  have c2 := FB.out.kf.cellv 2 (v := .slice A n c) rfl
  go_wp2
  clear c0 c1 c2
  go_loopw [4, 5] (fun u i wr => ∃ k : Nat, k ≤ n ∧ i = .int .i64 (k : Int) ∧ Hid (wr.ownsRow (w.heap.size + 1) 3 1 u (placesTo l (-2) k).length (iv (placesTo l (-2) k))) ∧ Hid (Below (w.heap.size + 1) (w.alloc (.cells #[.int .i64 a, .int .i64 b, .slice A n c] 34)) wr))
    (fun _ i _ => n - (intOf i).toNat)
  case atStart => exact ⟨0, Nat.zero_le _, rfl, Lib.hid (World.ownsRow_nil _ _ _ _), NX⟩
  case round =>
    obtain ⟨k, hk, rfl, how, hnx⟩ := hrel
    clear FB NX HS0
    have FB := Lib.hid (fbox_of hnx.out)
    have hsz := hnx.out.size
    simp only [World.size_alloc] at hsz
    have hle := placesTo_le l (-2) k
    have k0 : (0 : Int) ≤ (k : Int) := by omega
    have c0 := FB.out.kf.cellv 0 (v := .int .i64 a) rfl
    have c1 := FB.out.kf.cellv 1 (v := .int .i64 b) rfl
    have c2 := FB.out.kf.cellv 2 (v := .slice A n c) rfl
    by_cases hlt : k < n
    · have k1 : (k : Int) < (n : Int) := by omega
      obtain ⟨y, hy⟩ : ∃ y, l[k]? = some y := ⟨l[k]'(by rw [HL.out]; exact hlt), List.getElem?_eq_getElem _⟩
      have O1 := Lib.hid (fun W hb => OW.out k y hy W hb)
      by_cases hh : ownerS y = (-2)
      · have hp := placesTo_yes hy hh
        rw [decide_eq_true hh] at O1
        have HP := Lib.hid hp
        clear hh hp hy
        go_wp2_with fail
        refine (O1.out _ FB.out.bel).mono ?_
        rintro e w2 ⟨rfl, hb2⟩
        have how2 := own_below how.out hb2 (fun g hg => (how.out.lt g hg).2)
        have hnx2 := hnx.out.trans (hb2.mono (by omega))
        have hs2 := hb2.size
        have HO2 := Lib.hid how2; have NX2 := Lib.hid hnx2
        clear how2 hnx2 hb2 c0 c1 c2
        go_wp2_with (at_builtin; refine wpList_append_any _ rfl _ _ 36 rfl (w.heap.size + 1) 3 i0 (.int .i64 0) 1 8 Try.underlying36 hi hz0 hz1 hz2 rfl (by decide) _ _ _ rfl (HO2.out.alloc _) (w2.heap.size + 1) _ 1 1 _ rfl (reads_new1 _ _ rfl) (iv_oneCell [_]) (by unfold maxLen; omega) (by omega) (by simp; omega) ?_; intro v1 w1 hown1 hg1 _)
        have R : w1.ownsRow (w.heap.size + 1) 3 1 v1 (placesTo l (-2) (k + 1)).length (iv (placesTo l (-2) (k + 1))) := by
          rw [HP.out, iv_append, List.length_append]
          exact hown1
        have hnx1 : Below (w.heap.size + 1) (w.alloc (.cells #[.int .i64 a, .int .i64 b, .slice A n c] 34)) w1 := (NX2.out.alloc (by omega) _).grown hg1 (by simp; omega) (fun g hg => (HO2.out.lt g hg).1)
        go_roundw
        case rel => exact ⟨k + 1, by omega, by go_num, Lib.hid R, Lib.hid hnx1⟩
        case measure => simp [intOf]; omega
      · have hp := placesTo_no hy hh
        rw [decide_eq_false hh] at O1
        have HP := Lib.hid hp
        clear hp hy hh
        go_wp2_with fail
        refine (O1.out _ FB.out.bel).mono ?_
        rintro e w2 ⟨rfl, hb2⟩
        have how2 := own_below how.out hb2 (fun g hg => (how.out.lt g hg).2)
        have hnx2 := hnx.out.trans (hb2.mono (by omega))
        have HO2 := Lib.hid how2; have NX2 := Lib.hid hnx2
        clear how2 hnx2 hb2 c0 c1 c2
        go_wp2
        go_roundw
        case rel => exact ⟨k + 1, by omega, by go_num, Lib.hid (by rw [HP.out]; exact HO2.out), NX2⟩
        case measure => simp [intOf]; omega
    · obtain rfl : k = n := by omega
      go_wp2
      go_ret2
      exact ⟨_, rfl, by unfold placesS; rw [HL.out]; exact own_more how.out (by omega), FB.out.bel⟩

theorem refPrivate_any (a b : Int) (A : Option Addr) (n c : Nat) (l : List UInt8) (t : Int) (w : World) (hr : Reads w w.heap.size 1 A n (bv l)) (hn : n ≤ 140737488351232) :
    Calls Try.prog 47 #[.agg #[.int .i64 a, .int .i64 b, .slice A n c], .int .i64 t] w fun e w' =>
      ∃ v', e = .returned (.tuple #[v', .int .i64 (privS a b l t).2]) ∧ w'.ownsRow w.heap.size 3 1 v' (privS a b l t).1.length (iv (privS a b l t).1) ∧ Below w.heap.size w w' := by
  have FB := Lib.hid (fbox w a b (.slice A n c))
  have V := Lib.hid (fun W (hb : Below w.heap.size w W) => validFloor_any a b A n c l W ((hr.below hb).more hb.size) hn)
  cases hv : floorB a b l
  · rw [show privS a b l t = ([], 50) from by unfold privS; rw [hv]; rfl]
    rw [hv] at V
    clear hv hr
    go_enter Try.func47, Try.ntmps47
    go_wp2_with fail
    refine (V.out _ FB.out.bel).mono ?_
    rintro e x ⟨rfl, hx⟩
    replace FB := Lib.hid (FB.out.next hx)
    clear hx
    go_wp2
    go_ret2
    exact ⟨_, rfl, World.ownsRow_nil _ _ _ _, FB.out.bel⟩
  · by_cases hp : 0 ≤ t ∧ t < 3
    · rw [show privS a b l t = (placesS l t, 0) from by unfold privS; rw [hv, if_pos hp]; rfl]
      exact refPriv_ok a b A n c l t w hr hn hv hp.1 hp.2
    · rw [show privS a b l t = ([], 2) from by unfold privS; rw [hv, if_neg hp]; rfl]
      rw [hv] at V
      rcases Int.lt_or_le t 0 with h0 | h0
      · have d1 : decide (t < 0) = true := decide_eq_true h0
        clear hv hr hp
        go_enter Try.func47, Try.ntmps47
        go_wp2_with fail
        refine (V.out _ FB.out.bel).mono ?_
        rintro e x ⟨rfl, hx⟩
        replace FB := Lib.hid (FB.out.next hx)
        clear hx
        go_wp2
        go_ret2
        exact ⟨_, rfl, World.ownsRow_nil _ _ _ _, FB.out.bel⟩
      · have d1 : decide (t < 0) = false := decide_eq_false (by omega)
        have d2 : decide (3 ≤ t) = true := decide_eq_true (by omega)
        clear hv hr hp
        go_enter Try.func47, Try.ntmps47
        go_wp2_with fail
        refine (V.out _ FB.out.bel).mono ?_
        rintro e x ⟨rfl, hx⟩
        replace FB := Lib.hid (FB.out.next hx)
        clear hx
        go_wp2
        go_ret2
        exact ⟨_, rfl, World.ownsRow_nil _ _ _ _, FB.out.bel⟩
theorem refAisles_any (a b : Int) (A : Option Addr) (n c : Nat) (l : List UInt8) (w : World) (hr : Reads w w.heap.size 1 A n (bv l)) (hn : n ≤ 140737488351232) :
    Calls Try.prog 50 #[.agg #[.int .i64 a, .int .i64 b, .slice A n c]] w fun e w' =>
      ∃ v', e = .returned (.tuple #[v', .int .i64 (aislS a b l).2]) ∧ w'.ownsRow w.heap.size 3 1 v' (aislS a b l).1.length (iv (aislS a b l).1) ∧ Below w.heap.size w w' := by
  have FB := Lib.hid (fbox w a b (.slice A n c))
  have V := Lib.hid (fun W (hb : Below w.heap.size w W) => validFloor_any a b A n c l W ((hr.below hb).more hb.size) hn)
  cases hv : floorB a b l
  · rw [show aislS a b l = ([], 50) from by unfold aislS; rw [hv]; rfl]
    rw [hv] at V
    clear hv hr
    go_enter Try.func50, Try.ntmps50
    go_wp2_with fail
    refine (V.out _ FB.out.bel).mono ?_
    rintro e x ⟨rfl, hx⟩
    replace FB := Lib.hid (FB.out.next hx)
    clear hx
    go_wp2
    go_ret2
    exact ⟨_, rfl, World.ownsRow_nil _ _ _ _, FB.out.bel⟩
  · rw [show aislS a b l = (placesS l (-2), 0) from by unfold aislS; rw [hv]; rfl]
    exact refAisl_ok a b A n c l w hr hn hv
end Go.Proofs.Ythehkapaipfoaaa
