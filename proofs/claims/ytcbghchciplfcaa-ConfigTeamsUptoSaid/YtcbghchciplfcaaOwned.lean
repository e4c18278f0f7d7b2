/-
  OWNED: contracts of floor's functions on floors: Check, Owner, Private, Aisles.
-/
import Derived.Test.YtcbghchciplfcaaBoardOf
namespace Go.Proofs.Ytcbghchciplfcaa
set_option linter.unusedVariables false
set_option linter.unusedSimpArgs false
set_option maxRecDepth 100000
open Go.RowKit

theorem int_info : (Try.prog.info? 3).map (fun i => (i.zero, i.size, i.bytes)) = some (some (.int .i64 0), 1, 8) := by kernel_rfl
/-- the places up to k of the cells that belong to o. -/
def placesTo (l : List UInt8) (o : Int) : Nat → List Int
  | 0 => []
  | k + 1 => placesTo l o k ++ (match l[k]? with | some c => if ownerS c = o then [(k : Int)] else [] | none => [])
def placesS (l : List UInt8) (o : Int) : List Int := placesTo l o l.length
theorem placesTo_le (l : List UInt8) (o : Int) : ∀ k, (placesTo l o k).length ≤ k
  | 0 => by simp [placesTo]
  | k + 1 => by
    have := placesTo_le l o k
    unfold placesTo
    split
    · split <;> simp <;> omega
    · simp; omega
theorem placesTo_yes {l : List UInt8} {o : Int} {k : Nat} {c : UInt8} (hc : l[k]? = some c) (h : ownerS c = o) : placesTo l o (k + 1) = placesTo l o k ++ [(k : Int)] := by
  conv => lhs; unfold placesTo
  rw [hc]; simp [h]
theorem placesTo_no {l : List UInt8} {o : Int} {k : Nat} {c : UInt8} (hc : l[k]? = some c) (h : ownerS c ≠ o) : placesTo l o (k + 1) = placesTo l o k := by
  conv => lhs; unfold placesTo
  rw [hc]; simp [h]
theorem iv_append (a b : List Int) : iv (a ++ b) = iv a ++ iv b := by simp [iv]
theorem iv_oneCell (l : List Int) : ∀ u ∈ iv l, u.oneCell' = true := by
  intro u hu
  simp only [iv, List.mem_map] at hu
  obtain ⟨b, _, rfl⟩ := hu
  rfl
theorem iv_nil : iv [] = [] := rfl

set_option maxHeartbeats 1600000 in
theorem owned_any (a b o : Int) (A : Option Addr) (n c : Nat) (l : List UInt8) (w : World) (hr : Reads w w.heap.size 1 A n (bv l)) (hn : n ≤ 1000) :
    Calls Try.prog 98 #[.agg #[.int .i64 a, .int .i64 b, .slice A n c], .int .i64 o] w fun e w' =>
      ∃ v', e = .returned v' ∧ w'.ownsRow w.heap.size 3 1 v' (placesS l o).length (iv (placesS l o)) ∧ Below w.heap.size w w' := by
  obtain ⟨i0, hi, hz0, hz1, hz2⟩ := info_parts int_info
  have hlen : l.length = n := by have := hr.1; simpa using this
  have C := Lib.hid (fun (x : UInt8) (z : Int) (h : ownerS x = z) W => h ▸ ownerOf_any x W)
  have HR := Lib.hid hr; have HL := Lib.hid hlen
  clear hr hlen
  go_enter Try.func98, Try.ntmps98
  go_wp2
  go_loopw [5, 11] (fun u i wr => ∃ k : Nat, k ≤ n ∧ i = .int .i64 (k : Int) ∧ Hid (wr.ownsRow (w.heap.size + 1) 3 1 u (placesTo l o k).length (iv (placesTo l o k))) ∧ Hid (Below (w.heap.size + 1) (w.alloc (.cells #[.int .i64 a, .int .i64 b, .slice A n c] 123)) wr))
    (fun _ i _ => n - (intOf i).toNat)
  case atStart => exact ⟨0, Nat.zero_le _, rfl, Lib.hid (World.ownsRow_nil _ _ _ _), Lib.hid (by have := Below.refl (w.heap.size + 1) (w.alloc (.cells #[.int .i64 a, .int .i64 b, .slice A n c] 123)); exact this)⟩
  case round =>
    obtain ⟨k, hk, rfl, how, hnx⟩ := hrel
    have hbw : Below w.heap.size w wr := ((Below.refl _ _).alloc (Nat.le_refl _) _).trans (hnx.out.mono (by omega))
    have hsz := hnx.out.size
    simp only [World.size_alloc] at hsz
    have hle := placesTo_le l o k
    by_cases hlt : k < n
    · obtain ⟨ad, x, rfl, had, hx, hcx⟩ := cells_at (HR.out.below hbw) hlt
      have HX := Lib.hid hx
      have HB := Lib.hid hbw
      clear hx had hbw
      by_cases hh : ownerS x = o
      · have hp := placesTo_yes HX.out hh
        have HH := Lib.hid hh; have HP := Lib.hid hp
        clear hh hp
        go_wp2_with fail
        refine (C.out x o HH.out _).mono ?_
        rintro e w2 ⟨rfl, rfl⟩
        go_wp2_with (at_builtin; refine wpList_append_any _ rfl _ _ 22 rfl (w.heap.size + 1) 3 i0 (.int .i64 0) 1 8 Try.underlying22 hi hz0 hz1 hz2 rfl (by decide) _ _ _ rfl (how.out.alloc _) (wr.heap.size + 1) _ 1 1 _ rfl (reads_new1 _ _ rfl) (iv_oneCell [_]) (by unfold maxLen; omega) (by omega) (by simp; omega) ?_; intro v1 w1 hown1 hg1 _)
        have R : w1.ownsRow (w.heap.size + 1) 3 1 v1 (placesTo l o (k + 1)).length (iv (placesTo l o (k + 1))) := by
          rw [HP.out, iv_append, List.length_append]
          exact hown1
        have hnx1 : Below (w.heap.size + 1) (w.alloc (.cells #[.int .i64 a, .int .i64 b, .slice (some ad) n c] 123)) w1 := (hnx.out.alloc (by omega) _).grown hg1 (by simp; omega) (fun g hg => (how.out.lt g hg).1)
        go_roundw
        case rel => exact ⟨k + 1, by omega, by go_num, Lib.hid R, Lib.hid hnx1⟩
        case measure => simp [intOf]; omega
      · have hp := placesTo_no HX.out hh
        have he : (ownerS x == o) = false := by simpa using hh
        have HP := Lib.hid hp
        clear hp
        go_wp2_with fail
        refine (C.out x _ rfl _).mono ?_
        rintro e w2 ⟨rfl, rfl⟩
        go_wp2
        go_roundw
        case rel => exact ⟨k + 1, by omega, by go_num, Lib.hid (by rw [HP.out]; exact how.out), hnx⟩
        case measure => simp [intOf]; omega
    · obtain rfl : k = n := by omega
      go_wp2
      go_ret
      exact ⟨_, rfl, by unfold placesS; rw [HL.out]; exact own_more how.out (by omega), hbw⟩

theorem isTenant_any (t : Int) (w : World) : Calls Try.prog 97 #[.int .i64 t] w fun e w' => e = .returned (.bool (decide (0 ≤ t ∧ t < 3))) ∧ w = w' := by
  by_cases h1 : 0 ≤ t
  · by_cases h2 : t < 3
    · rw [decide_eq_true (show 0 ≤ t ∧ t < 3 from ⟨h1, h2⟩)]
      go_enter Try.func97, Try.ntmps97
      go_wp2
      go_ret
      exact ⟨rfl, rfl⟩
    · rw [decide_eq_false (show ¬ (0 ≤ t ∧ t < 3) from fun h => h2 h.2)]
      have h3 : decide (t < 3) = false := decide_eq_false h2
      clear h2
      go_enter Try.func97, Try.ntmps97
      go_wp2
      go_ret
      exact ⟨rfl, rfl⟩
  · rw [decide_eq_false (show ¬ (0 ≤ t ∧ t < 3) from fun h => h1 h.1)]
    have h3 : decide (0 ≤ t) = false := decide_eq_false h1
    have h4 : t < 0 := by omega
    clear h1
    go_enter Try.func97, Try.ntmps97
    go_wp2
    go_ret
    exact ⟨rfl, rfl⟩

theorem floorB_yes {a b : Int} {l : List UInt8} (h : floorB a b l = true) : ((2 ≤ a ∧ a ≤ 8) ∧ (2 ≤ b ∧ b ≤ 8)) ∧ (l.length : Int) = a * b ∧ l.all cellB = true := by
  unfold floorB at h
  simp only [Bool.and_eq_true, decide_eq_true_eq, gridB_iff] at h
  exact ⟨h.1.1, h.1.2, h.2⟩
theorem floorB_len {a b : Int} {l : List UInt8} (h : floorB a b l = true) : 4 ≤ l.length ∧ l.length ≤ 64 := by
  obtain ⟨⟨h1, h2⟩, h3, _⟩ := floorB_yes h
  have := size_bd h1 h2
  omega

section
variable (a b : Int) (A : Option Addr) (n c : Nat) (l : List UInt8) (w : World)
theorem board_call (t : Bool) (ht : floorB a b l = t) (hr : Reads w w.heap.size 1 A n (bv l)) (hn : n ≤ 140737488351232) (W : World) (hW : Below w.heap.size w W) :
    Calls Try.prog 94 #[.agg #[.int .i64 a, .int .i64 b, .slice A n c]] W fun e w' => e = .returned (boardE a b (.slice A n c) t) ∧ Below W.heap.size W w' :=
  ht ▸ boardOf_any a b A n c l W ((hr.below hW).more hW.size) hn
end

set_option maxHeartbeats 800000 in
theorem check_any (a b : Int) (A : Option Addr) (n c : Nat) (l : List UInt8) (w : World) (hr : Reads w w.heap.size 1 A n (bv l)) (hn : n ≤ 140737488351232) :
    Calls Try.prog 63 #[.agg #[.int .i64 a, .int .i64 b, .slice A n c]] w fun e w' => e = .returned (.int .i64 (if floorB a b l then 0 else 50)) ∧ Below w.heap.size w w' := by
  have hB : Below w.heap.size w (w.alloc (.cells #[.int .i64 a, .int .i64 b, .slice A n c] 30)) := (Below.refl _ _).alloc (Nat.le_refl _) _
  cases h : floorB a b l
  all_goals
    have G := Lib.hid (board_call a b A n c l w _ h hr hn _ hB)
    simp only [boardE] at G
    have H := Lib.hid hB
    clear h hr hB
    simp only [Bool.false_eq_true, if_false, if_true]
    go_enter Try.func63, Try.ntmps63
    go_wp2_with fail
    refine G.out.mono ?_
    rintro e w1 ⟨rfl, hb1⟩
    go_wp2
    go_ret
    exact ⟨rfl, (H.out.trans (hb1.mono (by simp))).alloc (by have := hb1.size; simp at this; omega) _⟩

/-- What Owner comes to. -/
def ownS (a b : Int) (l : List UInt8) (p : Int) : Int × Int :=
  if floorB a b l then (if 0 ≤ p ∧ p < (l.length : Int) then (ownerS (l.getD p.toNat 0), 0) else (0, 2)) else (0, 50)
set_option maxHeartbeats 800000 in
theorem owner_any (a b : Int) (A : Option Addr) (n c : Nat) (l : List UInt8) (p : Int) (w : World) (hr : Reads w w.heap.size 1 A n (bv l)) (hn : n ≤ 140737488351232) :
    Calls Try.prog 48 #[.agg #[.int .i64 a, .int .i64 b, .slice A n c], .int .i64 p] w fun e w' => e = .returned (.tuple #[.int .i64 (ownS a b l p).1, .int .i64 (ownS a b l p).2]) ∧ Below w.heap.size w w' := by
  have hB : Below w.heap.size w (w.alloc (.cells #[.int .i64 a, .int .i64 b, .slice A n c] 30)) := (Below.refl _ _).alloc (Nat.le_refl _) _
  cases h : floorB a b l
  · rw [show ownS a b l p = (0, 50) from by unfold ownS; rw [h]; rfl]
    have G := Lib.hid (board_call a b A n c l w _ h hr hn _ hB)
    simp only [boardE] at G
    have H := Lib.hid hB
    clear h hr hB
    go_enter Try.func48, Try.ntmps48
    go_wp2_with fail
    refine G.out.mono ?_
    rintro e w1 ⟨rfl, hb1⟩
    go_wp2
    go_ret2
    exact ⟨rfl, (H.out.trans (hb1.mono (by simp))).alloc (by have := hb1.size; simp at this; omega) _⟩
  · obtain ⟨⟨ha, hb⟩, hl, _⟩ := floorB_yes h
    have hlen : l.length = n := by have := hr.1; simpa using this
    have P := Lib.hid (fun (t : Bool) (ht : hasB a b p = t) W => ht ▸ has_any a b p W ha hb)
    have G := Lib.hid (board_call a b A n c l w _ h hr hn _ hB)
    simp only [boardE] at G
    have H := Lib.hid hB
    by_cases hp : 0 ≤ p ∧ p < (l.length : Int)
    · obtain ⟨k, rfl⟩ := Int.eq_ofNat_of_zero_le hp.1
      obtain ⟨ad, x, rfl, had, hx, hcx⟩ := cells_at hr (show k < n by omega)
      have hh : hasB a b (k : Int) = true := (hasB_iff _ _ _).2 (by omega)
      rw [show ownS a b l (k : Int) = (ownerS x, 0) from by unfold ownS; rw [h, if_pos hp]; simp [hx]]
      have HH := Lib.hid hh
      have hk : k < n := by omega
      have C := Lib.hid (fun W => ownerOf_any x W)
      clear h hB hh hx hp hlen ha hb hl hr
      go_enter Try.func48, Try.ntmps48
      go_wp2_with fail
      refine G.out.mono ?_
      rintro e w1 ⟨rfl, hb1⟩
      have hb1' := H.out.trans (hb1.mono (by simp))
      have HB1 := Lib.hid (hb1'.alloc hb1'.size (.cells #[.int .i64 a, .int .i64 b, .slice (some ad) n c] 123))
      clear hb1 hb1'
      go_wp2_with fail
      refine (P.out true HH.out _).mono ?_
      rintro e w2 ⟨rfl, hb2⟩
      have hc2 := (HB1.out.trans (hb2.mono HB1.out.size)).cell (p := ad.add k) (by rw [block_of_add]; exact had)
      rw [hcx] at hc2
      have hsz := HB1.out.size
      have e1 := hb2.cell (p := ⟨w1.heap.size, 1, none⟩) (by simp)
      have e2 := hb2.cell (p := ⟨w1.heap.size, 2, none⟩) (by simp)
      have HB2 := Lib.hid (HB1.out.trans (hb2.mono HB1.out.size))
      clear hb2 hcx had hsz
      go_wp2_with fail
      refine (C.out _).mono ?_
      rintro e w3 ⟨rfl, rfl⟩
      go_wp2
      go_ret2
      exact ⟨rfl, HB2.out⟩
    · rw [show ownS a b l p = (0, 2) from by unfold ownS; rw [h, if_neg hp]; rfl]
      have hh : hasB a b p = false := decide_eq_false (fun q => hp (by omega))
      have HH := Lib.hid hh
      clear h hB hh hp hlen ha hb hl hr
      go_enter Try.func48, Try.ntmps48
      go_wp2_with fail
      refine G.out.mono ?_
      rintro e w1 ⟨rfl, hb1⟩
      have hb1' := H.out.trans (hb1.mono (by simp))
      have HB1 := Lib.hid (hb1'.alloc hb1'.size (.cells #[.int .i64 a, .int .i64 b, .slice A n c] 123))
      clear hb1 hb1'
      go_wp2_with fail
      refine (P.out false HH.out _).mono ?_
      rintro e w2 ⟨rfl, hb2⟩
      go_wp2
      go_ret2
      exact ⟨rfl, HB1.out.trans (hb2.mono HB1.out.size)⟩

/-- What Private and Aisles come to. -/
def privS (a b : Int) (l : List UInt8) (t : Int) : List Int × Int :=
  if floorB a b l then (if 0 ≤ t ∧ t < 3 then (placesS l t, 0) else ([], 2)) else ([], 50)
def aislS (a b : Int) (l : List UInt8) : List Int × Int := if floorB a b l then (placesS l (-2), 0) else ([], 50)
set_option maxHeartbeats 800000 in
theorem private_any (a b : Int) (A : Option Addr) (n c : Nat) (l : List UInt8) (t : Int) (w : World) (hr : Reads w w.heap.size 1 A n (bv l)) (hn : n ≤ 140737488351232) :
    Calls Try.prog 52 #[.agg #[.int .i64 a, .int .i64 b, .slice A n c], .int .i64 t] w fun e w' =>
      ∃ v', e = .returned (.tuple #[v', .int .i64 (privS a b l t).2]) ∧ w'.ownsRow w.heap.size 3 1 v' (privS a b l t).1.length (iv (privS a b l t).1) ∧ Below w.heap.size w w' := by
  have hB : Below w.heap.size w (w.alloc (.cells #[.int .i64 a, .int .i64 b, .slice A n c] 30)) := (Below.refl _ _).alloc (Nat.le_refl _) _
  cases h : floorB a b l
  · rw [show privS a b l t = ([], 50) from by unfold privS; rw [h]; rfl]
    have G := Lib.hid (board_call a b A n c l w _ h hr hn _ hB)
    simp only [boardE] at G
    have H := Lib.hid hB
    clear h hr hB
    go_enter Try.func52, Try.ntmps52
    go_wp2_with fail
    refine G.out.mono ?_
    rintro e w1 ⟨rfl, hb1⟩
    go_wp2
    go_ret2
    exact ⟨_, rfl, World.ownsRow_nil _ _ _ _, (H.out.trans (hb1.mono (by simp))).alloc (by have := hb1.size; simp at this; omega) _⟩
  · have hlen : l.length = n := by have := hr.1; simpa using this
    have hll := floorB_len h
    have G := Lib.hid (board_call a b A n c l w _ h hr hn _ hB)
    simp only [boardE] at G
    have H := Lib.hid hB
    have T := Lib.hid (fun W => isTenant_any t W)
    by_cases hp : 0 ≤ t ∧ t < 3
    · rw [show privS a b l t = (placesS l t, 0) from by unfold privS; rw [h, if_pos hp]; rfl]
      rw [decide_eq_true hp] at T
      have O := Lib.hid (fun W (hb : Below w.heap.size w W) => owned_any a b t A n c l W ((hr.below hb).more hb.size) (by omega))
      clear h hB hlen hll hp hr
      go_enter Try.func52, Try.ntmps52
      go_wp2_with fail
      refine G.out.mono ?_
      rintro e w1 ⟨rfl, hb1⟩
      have hb1' := H.out.trans (hb1.mono (by simp))
      have HB1 := Lib.hid (hb1'.alloc hb1'.size (.cells #[.int .i64 a, .int .i64 b, .slice A n c] 123))
      clear hb1 hb1'
      go_wp2_with fail
      refine (T.out _).mono ?_
      rintro e w2 ⟨rfl, rfl⟩
      go_wp2_with fail
      refine (O.out _ HB1.out).mono ?_
      rintro e w3 ⟨v3, rfl, how, hb3⟩
      have HO := Lib.hid (own_more how HB1.out.size)
      clear how
      go_wp2
      go_ret2
      exact ⟨_, rfl, HO.out, HB1.out.trans (hb3.mono HB1.out.size)⟩
    · rw [show privS a b l t = ([], 2) from by unfold privS; rw [h, if_neg hp]; rfl]
      rw [decide_eq_false hp] at T
      clear h hB hlen hll hp hr
      go_enter Try.func52, Try.ntmps52
      go_wp2_with fail
      refine G.out.mono ?_
      rintro e w1 ⟨rfl, hb1⟩
      have hb1' := H.out.trans (hb1.mono (by simp))
      have HB1 := Lib.hid (hb1'.alloc hb1'.size (.cells #[.int .i64 a, .int .i64 b, .slice A n c] 123))
      clear hb1 hb1'
      go_wp2_with fail
      refine (T.out _).mono ?_
      rintro e w2 ⟨rfl, rfl⟩
      go_wp2
      go_ret2
      exact ⟨_, rfl, World.ownsRow_nil _ _ _ _, HB1.out⟩
set_option maxHeartbeats 800000 in
theorem aisles_any (a b : Int) (A : Option Addr) (n c : Nat) (l : List UInt8) (w : World) (hr : Reads w w.heap.size 1 A n (bv l)) (hn : n ≤ 140737488351232) :
    Calls Try.prog 54 #[.agg #[.int .i64 a, .int .i64 b, .slice A n c]] w fun e w' =>
      ∃ v', e = .returned (.tuple #[v', .int .i64 (aislS a b l).2]) ∧ w'.ownsRow w.heap.size 3 1 v' (aislS a b l).1.length (iv (aislS a b l).1) ∧ Below w.heap.size w w' := by
  have hB : Below w.heap.size w (w.alloc (.cells #[.int .i64 a, .int .i64 b, .slice A n c] 30)) := (Below.refl _ _).alloc (Nat.le_refl _) _
  cases h : floorB a b l
  · rw [show aislS a b l = ([], 50) from by unfold aislS; rw [h]; rfl]
    have G := Lib.hid (board_call a b A n c l w _ h hr hn _ hB)
    simp only [boardE] at G
    have H := Lib.hid hB
    clear h hr hB
    go_enter Try.func54, Try.ntmps54
    go_wp2_with fail
    refine G.out.mono ?_
    rintro e w1 ⟨rfl, hb1⟩
    go_wp2
    go_ret2
    exact ⟨_, rfl, World.ownsRow_nil _ _ _ _, (H.out.trans (hb1.mono (by simp))).alloc (by have := hb1.size; simp at this; omega) _⟩
  · have hlen : l.length = n := by have := hr.1; simpa using this
    have hll := floorB_len h
    have G := Lib.hid (board_call a b A n c l w _ h hr hn _ hB)
    simp only [boardE] at G
    have H := Lib.hid hB
    rw [show aislS a b l = (placesS l (-2), 0) from by unfold aislS; rw [h]; rfl]
    have O := Lib.hid (fun W (hb : Below w.heap.size w W) => owned_any a b (-2) A n c l W ((hr.below hb).more hb.size) (by omega))
    clear h hB hlen hll hr
    go_enter Try.func54, Try.ntmps54
    go_wp2_with fail
    refine G.out.mono ?_
    rintro e w1 ⟨rfl, hb1⟩
    have hb1' := H.out.trans (hb1.mono (by simp))
    have HB1 := Lib.hid (hb1'.alloc hb1'.size (.cells #[.int .i64 a, .int .i64 b, .slice A n c] 123))
    clear hb1 hb1'
    go_wp2_with fail
    refine (O.out _ HB1.out).mono ?_
    rintro e w3 ⟨v3, rfl, how, hb3⟩
    have HO := Lib.hid (own_more how HB1.out.size)
    clear how
    go_wp2
    go_ret2
    exact ⟨_, rfl, HO.out, HB1.out.trans (hb3.mono HB1.out.size)⟩
end Go.Proofs.Ytcbghchciplfcaa
