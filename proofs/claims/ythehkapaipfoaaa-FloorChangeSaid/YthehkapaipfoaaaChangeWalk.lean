/-
  FLOORCHANGE: the walk.
-/
import Derived.Test.YthehkapaipfoaaaFlRef
import Derived.Laws.OwnMore
namespace Go.Proofs.Ythehkapaipfoaaa
set_option linter.unusedVariables false
set_option linter.unusedSimpArgs false
set_option maxRecDepth 100000
open Go.RowKit

theorem floorB_set {a b : Int} {l : List UInt8} {k : Nat} {c : UInt8} (h : floorB a b l = true) (hk : k < l.length) : floorB a b (l.set k c) = cellB c := by
  obtain ⟨⟨h1, h2⟩, h3, h4⟩ := floorB_yes h
  have hg : gridB a b = true := (gridB_iff _ _).2 ⟨h1, h2⟩
  unfold floorB
  rw [hg, List.length_set, decide_eq_true h3]
  simp only [Bool.true_and]
  cases hc : cellB c
  · exact allc_not (k := k) (p := c) (by simp [hk]) hc
  · refine List.all_eq_true.2 fun x hx => ?_
    rcases List.mem_or_eq_of_mem_set hx with h | h
    · exact List.all_eq_true.1 h4 x h
    · rw [h]; exact hc
theorem own_set_self {a b : Int} {l : List UInt8} {k : Nat} {c : UInt8} (h : floorB a b l = true) (hc : cellB c = true) (hk : k < l.length) : ownS a b (l.set k c) (k : Int) = (ownerS c, 0) := by
  unfold ownS
  rw [floorB_set h hk, hc, if_pos rfl, if_pos ⟨by omega, by rw [List.length_set]; omega⟩]
  simp [hk]
theorem own_set_other {a b : Int} {l : List UInt8} {k : Nat} {c : UInt8} {q : Int} (h : floorB a b l = true) (hc : cellB c = true) (hk : k < l.length) (hq : (k : Int) ≠ q) : ownS a b (l.set k c) q = ownS a b l q := by
  unfold ownS
  rw [floorB_set h hk, hc, h, List.length_set, if_pos rfl, if_pos rfl]
  by_cases hr : 0 ≤ q ∧ q < (l.length : Int)
  · rw [if_pos hr, if_pos hr]
    have : k ≠ q.toNat := by omega
    simp [List.getD, List.getElem?_set_ne this]
  · rw [if_neg hr, if_neg hr]
theorem own_self {a b : Int} {l : List UInt8} {k : Nat} {x : UInt8} (h : floorB a b l = true) (hx : l[k]? = some x) : ownS a b l (k : Int) = (ownerS x, 0) := by
  have hk : k < l.length := by
    rcases Nat.lt_or_ge k l.length with h | h
    · exact h
    · rw [List.getElem?_eq_none h] at hx; cases hx
  unfold ownS
  rw [h, if_pos rfl, if_pos ⟨by omega, by omega⟩]
  simp [hx]
theorem own_bad {a b : Int} {l : List UInt8} {q : Int} (h : floorB a b l = false) : ownS a b l q = (0, 50) := by
  unfold ownS; rw [h]; rfl
theorem ownerS_eq (c : UInt8) : ownerS c = if (c.toNat : Int) = 255 then -2 else (c.toNat : Int) - 1 := by
  unfold ownerS
  by_cases h0 : c.toNat = 0
  · rw [if_pos h0, if_neg (by omega)]; omega
  · rw [if_neg h0]
    by_cases h1 : c.toNat = 255
    · rw [if_pos h1, if_pos (by omega)]
    · rw [if_neg h1, if_neg (by omega)]
theorem own_head {w : World} {base n : Nat} {e : TypeId} {A : Option Addr} {c : Nat} {xs : List Value} (h : w.ownsRow base e 1 (.slice A n c) n xs) (hn : 0 < n) : ∃ g, A = some ⟨g, 0, none⟩ ∧ base ≤ g ∧ g < w.heap.size := by
  have hl := h.lt
  rcases h.2 with ⟨_, h0⟩ | ⟨g, cap, cur, hv, _⟩
  · omega
  · injection hv with hv
    subst hv
    obtain ⟨h1, h2⟩ := hl g rfl
    exact ⟨g, rfl, h1, h2⟩

/-- what FloorChange has laid when the cell is changed. -/
structure ChW (w W X : World) (a b : Int) (A : Option Addr) (n c : Nat) (l l' : List UInt8) (g1 g2 c1 : Nat) : Prop where
  kf : Blk X w.heap.size 34 (b3 a b (.slice A n c))
  kg : Blk X g2 34 (b3 a b (.slice (some ⟨g1, 0, none⟩) n c1))
  rf : Reads X X.heap.size 1 A n (bv l)
  rg : Reads X X.heap.size 1 (some ⟨g1, 0, none⟩) n (bv l')
  bel : Below w.heap.size w X
theorem ChW.next {w W X X' : World} {a b : Int} {A : Option Addr} {n c : Nat} {l l' : List UInt8} {g1 g2 c1 : Nat} (h : ChW w W X a b A n c l l' g1 g2 c1) (hb : Below X.heap.size X X') : ChW w W X' a b A n c l l' g1 g2 c1 :=
  ⟨h.kf.below hb h.kf.lt, h.kg.below hb h.kg.lt, (h.rf.below hb).more hb.size, (h.rg.below hb).more hb.size, h.bel.trans (hb.mono h.bel.size)⟩
theorem chW_made {w W x : World} {a b : Int} {A : Option Addr} {n c : Nat} {l : List UInt8} {g1 c1 k base : Nat} {y : UInt8} (hkf : Blk x w.heap.size 34 (b3 a b (.slice A n c))) (hrf : Reads x w.heap.size 1 A n (bv l))
    (hown : x.ownsRow base 5 1 (.slice (some ⟨g1, 0, none⟩) n c1) n (bv l)) (hg1 : w.heap.size < g1) (hg2 : g1 < x.heap.size) (hb : Below w.heap.size w x) :
    ChW w W ((x.setCell ⟨g1, k, none⟩ (u8v y)).alloc (.cells #[.int .i64 a, .int .i64 b, .slice (some ⟨g1, 0, none⟩) n c1] 34)) a b A n c l (l.set k y) g1 x.heap.size c1 := by
  have hbw := hb.size
  have hz : (x.setCell ⟨g1, k, none⟩ (u8v y)).heap.size = x.heap.size := by simp [World.setCell]
  have ho := ((hown.stored k (u8v y)).1).alloc (.cells #[.int .i64 a, .int .i64 b, .slice (some ⟨g1, 0, none⟩) n c1] 34)
  refine ⟨?_, ?_, ?_, ?_, ?_⟩
  · exact (hkf.far (by simp; omega) _).alloc _
  · have := Blk.new (x.setCell ⟨g1, k, none⟩ (u8v y)) 34 (b3 a b (.slice (some ⟨g1, 0, none⟩) n c1))
    rwa [hz] at this
  · exact ((hrf.setCell (by simp; omega) _).alloc (by rw [hz]; exact hbw) _).more (by simp [World.setCell]; omega)
  · have := Reads.of_own ho
    rwa [bv_set] at this
  · exact (hb.setCell (by simp; omega) _).alloc (by rw [hz]; exact hbw) _
end Go.Proofs.Ythehkapaipfoaaa

namespace Go.Proofs.Ythehkapaipfoaaa.floorChange
open Go.RowKit

set_option maxHeartbeats 1600000 in
theorem change_bad (a b : Int) (A : Option Addr) (n c : Nat) (l : List UInt8) (p ch q : Int) (w : World) (hr : Reads w w.heap.size 1 A n (bv l)) (hn : n ≤ 140737488351232) (hv : floorB a b l = false) :
    Calls Try.prog 13 #[.agg #[.int .i64 a, .int .i64 b, .slice A n c], .int .i64 p, .int .u8 ch, .int .i64 q] w fun e w' => e = .returned (.bool true) ∧ Below w.heap.size w w' := by
  have hb : Below w.heap.size w (w.alloc (.cells #[.int .i64 a, .int .i64 b, .slice A n c] 34)) := (Below.refl _ _).alloc (Nat.le_refl _) _
  have KF := Lib.hid (Blk.new w 34 (b3 a b (.slice A n c)))
  have B := Lib.hid hb
  have V := Lib.hid (fun W (hb : Below w.heap.size w W) => validFloor_any a b A n c l W ((hr.below hb).more hb.size) hn)
  rw [hv] at V
  clear hv hr hb
  go_enter Try.func13, Try.ntmps13
  go_wp2_with fail
  refine (falive_true _).mono ?_
  rintro e x ⟨rfl, hb⟩
  have kf := KF.out.below hb KF.out.lt
  replace B := Lib.hid (B.out.trans (hb.mono B.out.size))
  have c0 := kf.cellv 0 (v := .int .i64 a) rfl
  have c1 := kf.cellv 1 (v := .int .i64 b) rfl
  have c2 := kf.cellv 2 (v := .slice A n c) rfl
  clear hb KF kf
  go_wp2_with fail
  refine (V.out _ B.out).mono ?_
  rintro e x ⟨rfl, hb⟩
  replace B := Lib.hid (B.out.trans (hb.mono B.out.size))
  clear hb
  go_wp2
  go_ret
  exact ⟨rfl, B.out⟩

set_option maxHeartbeats 1600000 in
theorem change_out (a b : Int) (A : Option Addr) (n c : Nat) (l : List UInt8) (p ch q : Int) (w : World) (hr : Reads w w.heap.size 1 A n (bv l)) (hn : n ≤ 140737488351232) (hv : floorB a b l = true) (b1 b2 : Bool) (h1 : decide (p < 0) = b1) (h2 : decide ((n : Int) ≤ p) = b2) (h3 : (b1 || b2) = true) :
    Calls Try.prog 13 #[.agg #[.int .i64 a, .int .i64 b, .slice A n c], .int .i64 p, .int .u8 ch, .int .i64 q] w fun e w' => e = .returned (.bool true) ∧ Below w.heap.size w w' := by
  have hb : Below w.heap.size w (w.alloc (.cells #[.int .i64 a, .int .i64 b, .slice A n c] 34)) := (Below.refl _ _).alloc (Nat.le_refl _) _
  have KF := Lib.hid (Blk.new w 34 (b3 a b (.slice A n c)))
  have KF2 := Lib.hid (fun x hb => KF.out.below (w' := x) hb KF.out.lt)
  have B := Lib.hid hb
  have V := Lib.hid (fun W (hb : Below w.heap.size w W) => validFloor_any a b A n c l W ((hr.below hb).more hb.size) hn)
  rw [hv] at V
  clear hv hr hb
  cases b1
  · obtain rfl : b2 = true := by simpa using h3
    clear h3
    go_enter Try.func13, Try.ntmps13
    go_wp2_with fail
    refine (falive_true _).mono ?_
    rintro e x ⟨rfl, hb⟩
    have kf := KF2.out x hb
    replace B := Lib.hid (B.out.trans (hb.mono B.out.size))
    have c0 := kf.cellv 0 (v := .int .i64 a) rfl
    have c1 := kf.cellv 1 (v := .int .i64 b) rfl
    have c2 := kf.cellv 2 (v := .slice A n c) rfl
    have KX := Lib.hid kf
    clear hb KF2 kf KF
    go_wp2_with fail
    refine (V.out _ B.out).mono ?_
    rintro e x2 ⟨rfl, hb⟩
    have kf := KX.out.below hb KX.out.lt
    have c2' := kf.cellv 2 (v := .slice A n c) rfl
    replace B := Lib.hid (B.out.trans (hb.mono B.out.size))
    clear hb kf c0 c1 c2
    go_wp2
    go_ret
    exact ⟨rfl, B.out⟩
  · clear h3 h2
    go_enter Try.func13, Try.ntmps13
    go_wp2_with fail
    refine (falive_true _).mono ?_
    rintro e x ⟨rfl, hb⟩
    have kf := KF2.out x hb
    replace B := Lib.hid (B.out.trans (hb.mono B.out.size))
    have c0 := kf.cellv 0 (v := .int .i64 a) rfl
    have c1 := kf.cellv 1 (v := .int .i64 b) rfl
    have c2 := kf.cellv 2 (v := .slice A n c) rfl
    clear hb KF2 kf KF
    go_wp2_with fail
    refine (V.out _ B.out).mono ?_
    rintro e x ⟨rfl, hb⟩
    replace B := Lib.hid (B.out.trans (hb.mono B.out.size))
    clear hb
    go_wp2
    go_ret
    exact ⟨rfl, B.out⟩

set_option maxHeartbeats 6400000 in
theorem change_ok (a b : Int) (A : Option Addr) (n c : Nat) (l : List UInt8) (k : Nat) (y : UInt8) (q : Int) (w : World) (hr : Reads w w.heap.size 1 A n (bv l)) (hn : n ≤ 140737488351232) (hv : floorB a b l = true) (hk : k < n) :
    Calls Try.prog 13 #[.agg #[.int .i64 a, .int .i64 b, .slice A n c], .int .i64 (k : Int), .int .u8 (y.toNat : Int), .int .i64 q] w fun e w' => e = .returned (.bool true) ∧ Below w.heap.size w w' := by
  have hlen : l.length = n := by have := hr.1; simpa using this
  have hb : Below w.heap.size w (w.alloc (.cells #[.int .i64 a, .int .i64 b, .slice A n c] 34)) := (Below.refl _ _).alloc (Nat.le_refl _) _
  have KF := Lib.hid (Blk.new w 34 (b3 a b (.slice A n c)))
  have KF2 := Lib.hid (fun x hb => KF.out.below (w' := x) hb KF.out.lt)
  have B := Lib.hid hb
  have RR := Lib.hid (fun W (hb : Below w.heap.size w W) => (hr.below hb).more hb.size)
  have RW := Lib.hid (fun W (hb : Below w.heap.size w W) => hr.below hb)
  have V := Lib.hid (fun W (hb : Below w.heap.size w W) => validFloor_any a b A n c l W (RR.out W hb) hn)
  have T := Lib.hid (fun W (hb : Below w.heap.size w W) => twin_any a b A n c l W (RR.out W hb) hn)
  rw [hv] at V
  have hlt : w.heap.size < (w.alloc (.cells #[.int .i64 a, .int .i64 b, .slice A n c] 34)).heap.size := by simp
  have HLT := Lib.hid hlt
  have HLEN := Lib.hid hlen; have HV := Lib.hid hv; have HK := Lib.hid hk
  have t1 : decide ((k : Int) < 0) = false := decide_eq_false (by omega)
  have t2 : decide ((n : Int) ≤ (k : Int)) = false := decide_eq_false (by omega)
  have k0 : (0 : Int) ≤ (k : Int) := by omega
  have k1 : (k : Int) < (n : Int) := by omega
  clear hv hr hb hlen hlt
  go_enter Try.func13, Try.ntmps13
  go_wp2_with fail
  refine (falive_true _).mono ?_
  rintro e x1 ⟨rfl, hb⟩
  have kf := KF2.out x1 hb
  have HS := Lib.hid (Nat.lt_of_lt_of_le HLT.out hb.size)
  replace B := Lib.hid (B.out.trans (hb.mono B.out.size))
  have c0 := kf.cellv 0 (v := .int .i64 a) rfl
  have c1 := kf.cellv 1 (v := .int .i64 b) rfl
  have c2 := kf.cellv 2 (v := .slice A n c) rfl
  have KX := Lib.hid kf
  clear hb KF2 kf KF HLT
  go_wp2_with fail
  refine (V.out _ B.out).mono ?_
  rintro e x2 ⟨rfl, hb⟩
  have kf := KX.out.below hb KX.out.lt
  have HS2 := Lib.hid (Nat.lt_of_lt_of_le HS.out hb.size)
  replace B := Lib.hid (B.out.trans (hb.mono B.out.size))
  clear c0 c1 c2 KX
  have c0 := kf.cellv 0 (v := .int .i64 a) rfl
  have c1 := kf.cellv 1 (v := .int .i64 b) rfl
  have c2 := kf.cellv 2 (v := .slice A n c) rfl
  have KX := Lib.hid kf
  clear hb kf HS
  go_wp2_with fail
  refine (T.out _ B.out).mono ?_
  rintro e x3 ⟨A1, cg, rfl, ho, hb⟩
  obtain ⟨g1, rfl, hg1, hg2⟩ := own_head ho.out (by omega)
  have kf := KX.out.below hb KX.out.lt
  replace B := Lib.hid (B.out.trans (hb.mono B.out.size))
  have CH := Lib.hid (chW_made (W := w) (k := k) (y := y) kf (RW.out _ B.out) ho.out (Nat.lt_of_lt_of_le HS2.out hg1) hg2 B.out)
  have ho2 := ho.out.alloc (.cells #[.int .i64 a, .int .i64 b, .slice (some ⟨g1, 0, none⟩) n cg] 34)
  have fz := ho2.frozenAt k
  obtain ⟨z, hz⟩ : ∃ z, l[k]? = some z := ⟨l[k]'(by rw [HLEN.out]; exact HK.out), List.getElem?_eq_getElem _⟩
  have cz : (x3.alloc (.cells #[.int .i64 a, .int .i64 b, .slice (some ⟨g1, 0, none⟩) n cg] 34)).cell? ⟨g1, k, none⟩ = some (u8v z) := by rw [ho2.cellAt k (by omega)]; simp [bv, hz]
  unfold u8v at cz
  clear hb kf ho ho2 hz c0 c1 c2 KX V T B HS2 RR RW
  go_upto_region 6 with fail
  unfold u8v at CH
  generalize World.alloc _ _ = X at CH ⊢
  generalize x3.heap.size = g2 at CH ⊢
  clear cz fz
  have kf := CH.out.kf
  have kg := CH.out.kg
  have c0 := kf.cellv 0 (v := .int .i64 a) rfl
  have c1 := kf.cellv 1 (v := .int .i64 b) rfl
  have c2 := kf.cellv 2 (v := .slice A n c) rfl
  have d0 := kg.cellv 0 (v := .int .i64 a) rfl
  have d1 := kg.cellv 1 (v := .int .i64 b) rfl
  have d2 := kg.cellv 2 (v := .slice (some ⟨g1, 0, none⟩) n cg) rfl
  clear kf kg
  have hl' : (l.set k y).length = n := by rw [List.length_set]; exact HLEN.out
  have OP := Lib.hid (fun (p : Int) X (ch : ChW w w X a b A n c l (l.set k y) g1 g2 cg) => owner_any a b (some ⟨g1, 0, none⟩) n cg (l.set k y) p X ch.rg hn)
  have OF := Lib.hid (fun (p : Int) X (ch : ChW w w X a b A n c l (l.set k y) g1 g2 cg) => owner_any a b A n c l p X ch.rf hn)
  have KP := Lib.hid (fun X (ch : ChW w w X a b A n c l (l.set k y) g1 g2 cg) => check_any a b (some ⟨g1, 0, none⟩) n cg (l.set k y) X ch.rg hn)
  have HKL : Hid (k < l.length) := Lib.hid (by rw [HLEN.out]; exact HK.out)
  cases hc : cellB y
  · have hbad := floorB_set (c := y) HV.out HKL.out
    rw [hc] at hbad
    have O1 := Lib.hid (fun X ch => OP.out q X ch)
    rw [own_bad hbad] at O1
    rw [hbad] at KP
    simp only [Bool.false_eq_true, if_false] at KP
    have hm : ¬ (y.toNat ≤ 3) ∧ ¬ (y.toNat = 255) := by
      unfold cellB at hc
      simp at hc
      omega
    obtain ⟨m, hmm⟩ : ∃ m : Int, m = (y.toNat : Int) := ⟨_, rfl⟩
    rw [← hmm]
    have u1 : decide (3 < m) = true := decide_eq_true (by omega)
    have u2 : (m != 255) = true := by rw [bne_iff_ne]; omega
    clear hbad hc hm hmm HK HKL k1 t1 t2
    go_wp2_with fail
    refine (O1.out _ CH.out).mono ?_
    rintro e x ⟨rfl, hb⟩
    replace CH := Lib.hid (CH.out.next hb)
    clear hb c0 c1 c2 d0 d1 d2
    have kf := CH.out.kf
    have kg := CH.out.kg
    have c0 := kf.cellv 0 (v := .int .i64 a) rfl
    have c1 := kf.cellv 1 (v := .int .i64 b) rfl
    have c2 := kf.cellv 2 (v := .slice A n c) rfl
    have d0 := kg.cellv 0 (v := .int .i64 a) rfl
    have d1 := kg.cellv 1 (v := .int .i64 b) rfl
    have d2 := kg.cellv 2 (v := .slice (some ⟨g1, 0, none⟩) n cg) rfl
    clear kf kg
    go_wp2_with fail
    refine (KP.out _ CH.out).mono ?_
    rintro e x ⟨rfl, hb⟩
    replace CH := Lib.hid (CH.out.next hb)
    clear hb c0 c1 c2 d0 d1 d2
    have kf := CH.out.kf
    have kg := CH.out.kg
    have c0 := kf.cellv 0 (v := .int .i64 a) rfl
    have c1 := kf.cellv 1 (v := .int .i64 b) rfl
    have c2 := kf.cellv 2 (v := .slice A n c) rfl
    have d0 := kg.cellv 0 (v := .int .i64 a) rfl
    have d1 := kg.cellv 1 (v := .int .i64 b) rfl
    have d2 := kg.cellv 2 (v := .slice (some ⟨g1, 0, none⟩) n cg) rfl
    clear kf kg
    go_wp2
    go_ret
    exact ⟨rfl, CH.out.bel⟩
  · have O1 := Lib.hid (fun X ch => OP.out (k : Int) X ch)
    rw [own_set_self HV.out hc HKL.out, ownerS_eq] at O1
    have O2 := Lib.hid (fun X ch => OF.out q X ch)
    have O3 := Lib.hid (fun X ch => OP.out q X ch)
    have hq : ∃ r1 r2 e, ownS a b l q = (r1, e) ∧ ownS a b (l.set k y) q = (r2, e) ∧ ((k : Int) = q ∨ ((k : Int) ≠ q ∧ r1 = r2)) := by
      by_cases he : (k : Int) = q
      · obtain ⟨z, hz⟩ : ∃ z, l[k]? = some z := ⟨l[k]'HKL.out, List.getElem?_eq_getElem _⟩
        exact ⟨_, _, 0, by rw [← he]; exact own_self HV.out hz, by rw [← he]; exact own_set_self HV.out hc HKL.out, .inl he⟩
      · exact ⟨_, _, _, rfl, own_set_other HV.out hc HKL.out he, .inr ⟨he, rfl⟩⟩
    obtain ⟨r1, r2, er, hq1, hq2, hq3⟩ := hq
    rw [hq1] at O2
    rw [hq2] at O3
    have hm : y.toNat ≤ 3 ∨ y.toNat = 255 := by
      unfold cellB at hc
      simpa using hc
    obtain ⟨m, hmm⟩ : ∃ m : Int, m = (y.toNat : Int) := ⟨_, rfl⟩
    rw [← hmm] at O1 ⊢
    have m0 : 0 ≤ m := by omega
    have m1 : m ≤ 255 := by omega
    have hm' : m ≤ 3 ∨ m = 255 := by omega
    clear hq1 hq2 hc hm hmm HK HKL k1 t1 t2
    have IT := Lib.hid (fun z W => is_true z W)
    rcases hm' with hm | hm
    · rw [if_neg (by omega)] at O1
      have u1 : decide (3 < m) = false := decide_eq_false (by omega)
      have u2 : (m == 255) = false := by rw [beq_eq_false_iff_ne]; omega
      clear hm
      rcases hq3 with rfl | ⟨hne, rfl⟩
      · go_wp2_with fail
        refine (O1.out _ CH.out).mono ?_
        rintro e x ⟨rfl, hb⟩
        replace CH := Lib.hid (CH.out.next hb)
        clear hb c0 c1 c2 d0 d1 d2
        have kf := CH.out.kf
        have kg := CH.out.kg
        have c0 := kf.cellv 0 (v := .int .i64 a) rfl
        have c1 := kf.cellv 1 (v := .int .i64 b) rfl
        have c2 := kf.cellv 2 (v := .slice A n c) rfl
        have d0 := kg.cellv 0 (v := .int .i64 a) rfl
        have d1 := kg.cellv 1 (v := .int .i64 b) rfl
        have d2 := kg.cellv 2 (v := .slice (some ⟨g1, 0, none⟩) n cg) rfl
        clear kf kg
        go_wp2_with fail
        refine (O2.out _ CH.out).mono ?_
        rintro e x ⟨rfl, hb⟩
        replace CH := Lib.hid (CH.out.next hb)
        clear hb c0 c1 c2 d0 d1 d2
        have kf := CH.out.kf
        have kg := CH.out.kg
        have c0 := kf.cellv 0 (v := .int .i64 a) rfl
        have c1 := kf.cellv 1 (v := .int .i64 b) rfl
        have c2 := kf.cellv 2 (v := .slice A n c) rfl
        have d0 := kg.cellv 0 (v := .int .i64 a) rfl
        have d1 := kg.cellv 1 (v := .int .i64 b) rfl
        have d2 := kg.cellv 2 (v := .slice (some ⟨g1, 0, none⟩) n cg) rfl
        clear kf kg
        go_wp2_with fail
        refine (O3.out _ CH.out).mono ?_
        rintro e x ⟨rfl, hb⟩
        replace CH := Lib.hid (CH.out.next hb)
        clear hb c0 c1 c2 d0 d1 d2
        have kf := CH.out.kf
        have kg := CH.out.kg
        have c0 := kf.cellv 0 (v := .int .i64 a) rfl
        have c1 := kf.cellv 1 (v := .int .i64 b) rfl
        have c2 := kf.cellv 2 (v := .slice A n c) rfl
        have d0 := kg.cellv 0 (v := .int .i64 a) rfl
        have d1 := kg.cellv 1 (v := .int .i64 b) rfl
        have d2 := kg.cellv 2 (v := .slice (some ⟨g1, 0, none⟩) n cg) rfl
        clear kf kg
        go_wp2_with fail
        refine (IT.out _ _).mono ?_
        rintro e x ⟨rfl, rfl⟩
        go_wp2
        go_ret
        exact ⟨rfl, CH.out.bel⟩
      · have v1 : ((k : Int) == q) = false := by simpa using hne
        clear hne
        go_wp2_with fail
        refine (O1.out _ CH.out).mono ?_
        rintro e x ⟨rfl, hb⟩
        replace CH := Lib.hid (CH.out.next hb)
        clear hb c0 c1 c2 d0 d1 d2
        have kf := CH.out.kf
        have kg := CH.out.kg
        have c0 := kf.cellv 0 (v := .int .i64 a) rfl
        have c1 := kf.cellv 1 (v := .int .i64 b) rfl
        have c2 := kf.cellv 2 (v := .slice A n c) rfl
        have d0 := kg.cellv 0 (v := .int .i64 a) rfl
        have d1 := kg.cellv 1 (v := .int .i64 b) rfl
        have d2 := kg.cellv 2 (v := .slice (some ⟨g1, 0, none⟩) n cg) rfl
        clear kf kg
        go_wp2_with fail
        refine (O2.out _ CH.out).mono ?_
        rintro e x ⟨rfl, hb⟩
        replace CH := Lib.hid (CH.out.next hb)
        clear hb c0 c1 c2 d0 d1 d2
        have kf := CH.out.kf
        have kg := CH.out.kg
        have c0 := kf.cellv 0 (v := .int .i64 a) rfl
        have c1 := kf.cellv 1 (v := .int .i64 b) rfl
        have c2 := kf.cellv 2 (v := .slice A n c) rfl
        have d0 := kg.cellv 0 (v := .int .i64 a) rfl
        have d1 := kg.cellv 1 (v := .int .i64 b) rfl
        have d2 := kg.cellv 2 (v := .slice (some ⟨g1, 0, none⟩) n cg) rfl
        clear kf kg
        go_wp2_with fail
        refine (O3.out _ CH.out).mono ?_
        rintro e x ⟨rfl, hb⟩
        replace CH := Lib.hid (CH.out.next hb)
        clear hb c0 c1 c2 d0 d1 d2
        have kf := CH.out.kf
        have kg := CH.out.kg
        have c0 := kf.cellv 0 (v := .int .i64 a) rfl
        have c1 := kf.cellv 1 (v := .int .i64 b) rfl
        have c2 := kf.cellv 2 (v := .slice A n c) rfl
        have d0 := kg.cellv 0 (v := .int .i64 a) rfl
        have d1 := kg.cellv 1 (v := .int .i64 b) rfl
        have d2 := kg.cellv 2 (v := .slice (some ⟨g1, 0, none⟩) n cg) rfl
        clear kf kg
        go_wp2_with fail
        refine (IT.out _ _).mono ?_
        rintro e x ⟨rfl, rfl⟩
        go_wp2
        go_ret
        exact ⟨rfl, CH.out.bel⟩
    · rw [if_pos hm] at O1
      subst hm
      clear m0 m1
      rcases hq3 with rfl | ⟨hne, rfl⟩
      · go_wp2_with fail
        refine (O1.out _ CH.out).mono ?_
        rintro e x ⟨rfl, hb⟩
        replace CH := Lib.hid (CH.out.next hb)
        clear hb c0 c1 c2 d0 d1 d2
        have kf := CH.out.kf
        have kg := CH.out.kg
        have c0 := kf.cellv 0 (v := .int .i64 a) rfl
        have c1 := kf.cellv 1 (v := .int .i64 b) rfl
        have c2 := kf.cellv 2 (v := .slice A n c) rfl
        have d0 := kg.cellv 0 (v := .int .i64 a) rfl
        have d1 := kg.cellv 1 (v := .int .i64 b) rfl
        have d2 := kg.cellv 2 (v := .slice (some ⟨g1, 0, none⟩) n cg) rfl
        clear kf kg
        go_wp2_with fail
        refine (O2.out _ CH.out).mono ?_
        rintro e x ⟨rfl, hb⟩
        replace CH := Lib.hid (CH.out.next hb)
        clear hb c0 c1 c2 d0 d1 d2
        have kf := CH.out.kf
        have kg := CH.out.kg
        have c0 := kf.cellv 0 (v := .int .i64 a) rfl
        have c1 := kf.cellv 1 (v := .int .i64 b) rfl
        have c2 := kf.cellv 2 (v := .slice A n c) rfl
        have d0 := kg.cellv 0 (v := .int .i64 a) rfl
        have d1 := kg.cellv 1 (v := .int .i64 b) rfl
        have d2 := kg.cellv 2 (v := .slice (some ⟨g1, 0, none⟩) n cg) rfl
        clear kf kg
        go_wp2_with fail
        refine (O3.out _ CH.out).mono ?_
        rintro e x ⟨rfl, hb⟩
        replace CH := Lib.hid (CH.out.next hb)
        clear hb c0 c1 c2 d0 d1 d2
        have kf := CH.out.kf
        have kg := CH.out.kg
        have c0 := kf.cellv 0 (v := .int .i64 a) rfl
        have c1 := kf.cellv 1 (v := .int .i64 b) rfl
        have c2 := kf.cellv 2 (v := .slice A n c) rfl
        have d0 := kg.cellv 0 (v := .int .i64 a) rfl
        have d1 := kg.cellv 1 (v := .int .i64 b) rfl
        have d2 := kg.cellv 2 (v := .slice (some ⟨g1, 0, none⟩) n cg) rfl
        clear kf kg
        go_wp2_with fail
        refine (IT.out _ _).mono ?_
        rintro e x ⟨rfl, rfl⟩
        go_wp2
        go_ret
        exact ⟨rfl, CH.out.bel⟩
      · have v1 : ((k : Int) == q) = false := by simpa using hne
        clear hne
        go_wp2_with fail
        refine (O1.out _ CH.out).mono ?_
        rintro e x ⟨rfl, hb⟩
        replace CH := Lib.hid (CH.out.next hb)
        clear hb c0 c1 c2 d0 d1 d2
        have kf := CH.out.kf
        have kg := CH.out.kg
        have c0 := kf.cellv 0 (v := .int .i64 a) rfl
        have c1 := kf.cellv 1 (v := .int .i64 b) rfl
        have c2 := kf.cellv 2 (v := .slice A n c) rfl
        have d0 := kg.cellv 0 (v := .int .i64 a) rfl
        have d1 := kg.cellv 1 (v := .int .i64 b) rfl
        have d2 := kg.cellv 2 (v := .slice (some ⟨g1, 0, none⟩) n cg) rfl
        clear kf kg
        go_wp2_with fail
        refine (O2.out _ CH.out).mono ?_
        rintro e x ⟨rfl, hb⟩
        replace CH := Lib.hid (CH.out.next hb)
        clear hb c0 c1 c2 d0 d1 d2
        have kf := CH.out.kf
        have kg := CH.out.kg
        have c0 := kf.cellv 0 (v := .int .i64 a) rfl
        have c1 := kf.cellv 1 (v := .int .i64 b) rfl
        have c2 := kf.cellv 2 (v := .slice A n c) rfl
        have d0 := kg.cellv 0 (v := .int .i64 a) rfl
        have d1 := kg.cellv 1 (v := .int .i64 b) rfl
        have d2 := kg.cellv 2 (v := .slice (some ⟨g1, 0, none⟩) n cg) rfl
        clear kf kg
        go_wp2_with fail
        refine (O3.out _ CH.out).mono ?_
        rintro e x ⟨rfl, hb⟩
        replace CH := Lib.hid (CH.out.next hb)
        clear hb c0 c1 c2 d0 d1 d2
        have kf := CH.out.kf
        have kg := CH.out.kg
        have c0 := kf.cellv 0 (v := .int .i64 a) rfl
        have c1 := kf.cellv 1 (v := .int .i64 b) rfl
        have c2 := kf.cellv 2 (v := .slice A n c) rfl
        have d0 := kg.cellv 0 (v := .int .i64 a) rfl
        have d1 := kg.cellv 1 (v := .int .i64 b) rfl
        have d2 := kg.cellv 2 (v := .slice (some ⟨g1, 0, none⟩) n cg) rfl
        clear kf kg
        go_wp2_with fail
        refine (IT.out _ _).mono ?_
        rintro e x ⟨rfl, rfl⟩
        go_wp2
        go_ret
        exact ⟨rfl, CH.out.bel⟩

/-- The walk: true, whatever came in. -/
theorem floorChange_walk (a b : Int) (A : Option Addr) (n c : Nat) (l : List UInt8) (p ch q : Int) (w : World) (hr : Reads w w.heap.size 1 A n (bv l)) (hnc : n ≤ c) (hc : c ≤ 140737488351232) (_ : (Lit.int .i64 p).wf = true) (hch : (Lit.int .u8 ch).wf = true) (_ : (Lit.int .i64 q).wf = true) :
    Calls Try.prog 13 #[.agg #[.int .i64 a, .int .i64 b, .slice A n c], .int .i64 p, .int .u8 ch, .int .i64 q] w fun e w' => e = .returned (.bool true) ∧ Below w.heap.size w w' := by
  cases hv : floorB a b l
  · exact change_bad a b A n c l p ch q w hr (by omega) hv
  · rcases Int.lt_or_le p 0 with h0 | h0
    · exact change_out a b A n c l p ch q w hr (by omega) hv _ _ rfl rfl (by rw [decide_eq_true h0]; rfl)
    · rcases Int.lt_or_le p n with h1 | h1
      · obtain ⟨k, rfl⟩ := Int.eq_ofNat_of_zero_le h0
        obtain ⟨m0, m1⟩ := u8_wf' hch
        have : ch = ((UInt8.ofNat ch.toNat).toNat : Int) := by simp; omega
        rw [this]
        exact change_ok a b A n c l k _ q w hr (by omega) hv (by omega)
      · exact change_out a b A n c l p ch q w hr (by omega) hv _ _ rfl rfl (by rw [decide_eq_true h1]; simp)
end Go.Proofs.Ythehkapaipfoaaa.floorChange
