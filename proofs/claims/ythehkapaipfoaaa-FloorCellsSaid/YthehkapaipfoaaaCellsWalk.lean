/-
  FLOORCELLS: the walk.
-/
import Derived.Test.YthehkapaipfoaaaFlRef3
namespace Go.Proofs.Ythehkapaipfoaaa
set_option linter.unusedVariables false
set_option linter.unusedSimpArgs false
set_option maxRecDepth 100000
open Go.RowKit

/-- a floor that came in, and its twin, in two variables of the call's own. -/
structure TwW (w X : World) (a b : Int) (A : Option Addr) (n c : Nat) (l : List UInt8) (A1 : Option Addr) (g2 cg : Nat) : Prop where
  kf : Blk X w.heap.size 34 (b3 a b (.slice A n c))
  kg : Blk X g2 34 (b3 a b (.slice A1 n cg))
  rf : Reads X X.heap.size 1 A n (bv l)
  rg : Reads X X.heap.size 1 A1 n (bv l)
  bel : Below w.heap.size w X
theorem TwW.next {w X X' : World} {a b : Int} {A : Option Addr} {n c : Nat} {l : List UInt8} {A1 : Option Addr} {g2 cg : Nat} (h : TwW w X a b A n c l A1 g2 cg) (hb : Below X.heap.size X X') : TwW w X' a b A n c l A1 g2 cg :=
  ⟨h.kf.below hb h.kf.lt, h.kg.below hb h.kg.lt, (h.rf.below hb).more hb.size, (h.rg.below hb).more hb.size, h.bel.trans (hb.mono h.bel.size)⟩
theorem twW_made {w x : World} {a b : Int} {A : Option Addr} {n c : Nat} {l : List UInt8} {A1 : Option Addr} {cg base : Nat} (hkf : FBox w x a b (.slice A n c)) (hrf : Reads x w.heap.size 1 A n (bv l))
    (hown : x.ownsRow base 5 1 (.slice A1 n cg) n (bv l)) : TwW w (x.alloc (.cells #[.int .i64 a, .int .i64 b, .slice A1 n cg] 34)) a b A n c l A1 x.heap.size cg := by
  have hbw := hkf.bel.size
  exact ⟨hkf.kf.alloc _, Blk.new x 34 (b3 a b (.slice A1 n cg)), (hrf.alloc hbw _).more (by simp; omega), ((Reads.of_own hown).alloc (Nat.le_refl _) _).more (by simp), hkf.bel.alloc hbw _⟩

set_option maxHeartbeats 6400000 in
theorem fcells_ok (a b : Int) (A : Option Addr) (n c : Nat) (l : List UInt8) (t p : Int) (w : World) (hr : Reads w w.heap.size 1 A n (bv l)) (hn : n ≤ 140737488351232) :
    Calls Try.prog 5 #[.agg #[.int .i64 a, .int .i64 b, .slice A n c], .int .i64 t, .int .i64 p] w fun e w' => e = .returned (.bool true) ∧ Below w.heap.size w w' := by
  have FB := Lib.hid (fbox w a b (.slice A n c))
  have RW := Lib.hid (fun W (hb : Below w.heap.size w W) => hr.below hb)
  have T := Lib.hid (fun W (hb : Below w.heap.size w W) => twin_any a b A n c l W ((hr.below hb).more hb.size) hn)
  clear hr
  go_enter Try.func5, Try.ntmps5
  go_wp2_with fail
  refine (T.out _ FB.out.bel).mono ?_
  rintro e x3 ⟨A1, cg, rfl, ho, hb⟩
  replace FB := Lib.hid (FB.out.next hb)
  have CH := Lib.hid (twW_made FB.out (RW.out _ FB.out.bel) ho.out)
  clear hb ho T RW FB
  go_upto_region 2 with fail
  generalize World.alloc _ _ = X at CH ⊢
  generalize x3.heap.size = g2 at CH ⊢
  have O1 := Lib.hid (fun X (ch : TwW w X a b A n c l A1 g2 cg) => owner_any a b A1 n cg l p X ch.rg hn)
  have O2 := Lib.hid (fun X (ch : TwW w X a b A n c l A1 g2 cg) => refOwner_any a b A n c l p X ch.rf hn)
  have P1 := Lib.hid (fun X (ch : TwW w X a b A n c l A1 g2 cg) => private_any a b A1 n cg l t X ch.rg hn)
  have P2 := Lib.hid (fun X (ch : TwW w X a b A n c l A1 g2 cg) => refPrivate_any a b A n c l t X ch.rf hn)
  have S1 := Lib.hid (fun X (ch : TwW w X a b A n c l A1 g2 cg) => aisles_any a b A1 n cg l X ch.rg hn)
  have S2 := Lib.hid (fun X (ch : TwW w X a b A n c l A1 g2 cg) => refAisles_any a b A n c l X ch.rf hn)
  have K1 : Hid (∀ X, TwW w X a b A n c l A1 g2 cg → ∀ W', Below X.heap.size X W' → Calls Try.prog 31 #[.agg #[.int .i64 a, .int .i64 b, .slice A1 n cg]] W' fun e w' => e = .returned (.int .i64 (if floorB a b l then 0 else 50)) ∧ Below X.heap.size X w') :=
    Lib.hid (fun X ch W' hb => (check_any a b A1 n cg l W' ((ch.rg.below hb).more hb.size) hn).mono fun e w' ⟨h1, h2⟩ => ⟨h1, hb.trans (h2.mono hb.size)⟩)
  have K2 : Hid (∀ X, TwW w X a b A n c l A1 g2 cg → ∀ W', Below X.heap.size X W' → Calls Try.prog 46 #[.agg #[.int .i64 a, .int .i64 b, .slice A n c]] W' fun e w' => e = .returned (.int .i64 (if floorB a b l then 0 else 50)) ∧ Below X.heap.size X w') :=
    Lib.hid (fun X ch W' hb => (refCheck_any a b A n c l W' ((ch.rf.below hb).more hb.size) hn).mono fun e w' ⟨h1, h2⟩ => ⟨h1, hb.trans (h2.mono hb.size)⟩)
  have hle1 : (privS a b l t).1.length ≤ 140737488351232 := by
    unfold privS
    split
    · rename_i hv
      split
      · have := placesTo_le l t l.length
        have := floorB_len hv
        simp only [placesS]; omega
      · simp
    · simp
  have hle2 : (aislS a b l).1.length ≤ 140737488351232 := by
    unfold aislS
    split
    · rename_i hv
      have := placesTo_le l (-2) l.length
      have := floorB_len hv
      simp only [placesS]; omega
    · simp
  generalize ownS a b l p = o at O1 O2
  generalize privS a b l t = pv at P1 P2 hle1
  generalize aislS a b l = av at S1 S2 hle2
  generalize (if floorB a b l = true then (0 : Int) else 50) = q at K1 K2
  obtain ⟨o1, o2⟩ := o
  obtain ⟨pl, pe⟩ := pv
  obtain ⟨al, ae⟩ := av
  have kf := CH.out.kf
  have kg := CH.out.kg
  have c0 := kf.cellv 0 (v := .int .i64 a) rfl
  have c1 := kf.cellv 1 (v := .int .i64 b) rfl
  have c2 := kf.cellv 2 (v := .slice A n c) rfl
  have d0 := kg.cellv 0 (v := .int .i64 a) rfl
  have d1 := kg.cellv 1 (v := .int .i64 b) rfl
  have d2 := kg.cellv 2 (v := .slice A1 n cg) rfl
  clear kf kg
  go_wp2_with fail
  refine (O1.out _ CH.out).mono ?_
  rintro e x ⟨rfl, hb⟩
  replace CH := Lib.hid (CH.out.next hb)
  clear hb c0 c1 c2 d0 d1 d2
  have kf := CH.out.kf
  have kg := CH.out.kg
  have c0 := kf.cellv 0 (v := .int .i64 a) rfl
  have c1 := kf.cellv 1 (v := .int .i64 b) rfl
  have c2 := kf.cellv 2 (v := .slice A n c) rfl
  have d0 := kg.cellv 0 (v := .int .i64 a) rfl
  have d1 := kg.cellv 1 (v := .int .i64 b) rfl
  have d2 := kg.cellv 2 (v := .slice A1 n cg) rfl
  clear kf kg
  go_wp2_with fail
  refine (O2.out _ CH.out).mono ?_
  rintro e x ⟨rfl, hb⟩
  replace CH := Lib.hid (CH.out.next hb)
  clear hb c0 c1 c2 d0 d1 d2 O1 O2
  have kf := CH.out.kf
  have kg := CH.out.kg
  have c0 := kf.cellv 0 (v := .int .i64 a) rfl
  have c1 := kf.cellv 1 (v := .int .i64 b) rfl
  have c2 := kf.cellv 2 (v := .slice A n c) rfl
  have d0 := kg.cellv 0 (v := .int .i64 a) rfl
  have d1 := kg.cellv 1 (v := .int .i64 b) rfl
  have d2 := kg.cellv 2 (v := .slice A1 n cg) rfl
  clear kf kg
  go_upto_region 4 with fail
  have K1x := Lib.hid (K1.out _ CH.out)
  have K2x := Lib.hid (K2.out _ CH.out)
  have KS : Hid (∀ w' : World, Below x.heap.size x w' → Below x.heap.size x w' ∧ w'.cell? ⟨w.heap.size, 0, none⟩ = some (.int .i64 a) ∧ w'.cell? ⟨w.heap.size, 1, none⟩ = some (.int .i64 b) ∧ w'.cell? ⟨w.heap.size, 2, none⟩ = some (.slice A n c) ∧ w'.cell? ⟨g2, 0, none⟩ = some (.int .i64 a) ∧ w'.cell? ⟨g2, 1, none⟩ = some (.int .i64 b) ∧ w'.cell? ⟨g2, 2, none⟩ = some (.slice A1 n cg)) :=
    Lib.hid (fun w' hb => ⟨hb, (hb.cell (p := ⟨w.heap.size, 0, none⟩) (by exact CH.out.kf.lt)).trans c0, (hb.cell (p := ⟨w.heap.size, 1, none⟩) (by exact CH.out.kf.lt)).trans c1, (hb.cell (p := ⟨w.heap.size, 2, none⟩) (by exact CH.out.kf.lt)).trans c2,
      (hb.cell (p := ⟨g2, 0, none⟩) (by exact CH.out.kg.lt)).trans d0, (hb.cell (p := ⟨g2, 1, none⟩) (by exact CH.out.kg.lt)).trans d1, (hb.cell (p := ⟨g2, 2, none⟩) (by exact CH.out.kg.lt)).trans d2⟩)
  go_cut [42] (fun s wx => s = .bool false ∧ Hid (Below x.heap.size x wx))
  case first =>
    go_region_held3 (fun w' => Below x.heap.size x w' ∧ w'.cell? ⟨w.heap.size, 0, none⟩ = some (.int .i64 a) ∧ w'.cell? ⟨w.heap.size, 1, none⟩ = some (.int .i64 b) ∧ w'.cell? ⟨w.heap.size, 2, none⟩ = some (.slice A n c) ∧ w'.cell? ⟨g2, 0, none⟩ = some (.int .i64 a) ∧ w'.cell? ⟨g2, 1, none⟩ = some (.int .i64 b) ∧ w'.cell? ⟨g2, 2, none⟩ = some (.slice A1 n cg))
      ((refine KS.out _ ?_; repeat (first | (with_reducible assumption) | (with_reducible exact Below.refl _ _) | (with_reducible refine bk_drew ?_) | (with_reducible refine bk_alloc ?_ _))))
      (first
        | (go_at_call 31
           (refine (K1x.out _ ?_).mono ?_
            · (repeat (first | (with_reducible assumption) | (with_reducible exact Below.refl _ _) | (with_reducible refine bk_drew ?_) | (with_reducible refine bk_alloc ?_ _)))
            rintro e v1 ⟨rfl, hv1⟩))
        | (go_at_call 46
           (refine (K2x.out _ ?_).mono ?_
            · (repeat (first | (with_reducible assumption) | (with_reducible exact Below.refl _ _) | (with_reducible refine bk_drew ?_) | (with_reducible refine bk_alloc ?_ _)))
            rintro e v2 ⟨rfl, hv2⟩)))
    all_goals (go_wp2_with fail; go_split_ands; go_meet; exact ⟨rfl, Lib.hid (by assumption)⟩)
  case rest =>
    obtain ⟨rfl, hbx⟩ := hcut
    replace CH := Lib.hid (CH.out.next hbx.out)
    clear hbx KS K1x K2x K1 K2 c0 c1 c2 d0 d1 d2
    have kf := CH.out.kf
    have kg := CH.out.kg
    have c0 := kf.cellv 0 (v := .int .i64 a) rfl
    have c1 := kf.cellv 1 (v := .int .i64 b) rfl
    have c2 := kf.cellv 2 (v := .slice A n c) rfl
    have d0 := kg.cellv 0 (v := .int .i64 a) rfl
    have d1 := kg.cellv 1 (v := .int .i64 b) rfl
    have d2 := kg.cellv 2 (v := .slice A1 n cg) rfl
    clear kf kg
    go_wp2_with fail
    refine (P1.out _ CH.out).mono ?_
    rintro e x ⟨v, rfl, hown, hb⟩
    obtain ⟨X1, cX1, rfl, _, _, _⟩ := own_form hown
    replace CH := Lib.hid (CH.out.next hb)
    skip
    have RX1 := Lib.hid (Reads.of_own hown)
    clear hb c0 c1 c2 d0 d1 d2 hown
    have kf := CH.out.kf
    have kg := CH.out.kg
    have c0 := kf.cellv 0 (v := .int .i64 a) rfl
    have c1 := kf.cellv 1 (v := .int .i64 b) rfl
    have c2 := kf.cellv 2 (v := .slice A n c) rfl
    have d0 := kg.cellv 0 (v := .int .i64 a) rfl
    have d1 := kg.cellv 1 (v := .int .i64 b) rfl
    have d2 := kg.cellv 2 (v := .slice A1 n cg) rfl
    clear kf kg
    go_wp2_with fail
    refine (P2.out _ CH.out).mono ?_
    rintro e x ⟨v, rfl, hown, hb⟩
    obtain ⟨X2, cX2, rfl, _, _, _⟩ := own_form hown
    replace CH := Lib.hid (CH.out.next hb)
    replace RX1 := Lib.hid ((RX1.out.below hb).more hb.size)
    have RX2 := Lib.hid (Reads.of_own hown)
    clear hb c0 c1 c2 d0 d1 d2 hown
    have kf := CH.out.kf
    have kg := CH.out.kg
    have c0 := kf.cellv 0 (v := .int .i64 a) rfl
    have c1 := kf.cellv 1 (v := .int .i64 b) rfl
    have c2 := kf.cellv 2 (v := .slice A n c) rfl
    have d0 := kg.cellv 0 (v := .int .i64 a) rfl
    have d1 := kg.cellv 1 (v := .int .i64 b) rfl
    have d2 := kg.cellv 2 (v := .slice A1 n cg) rfl
    clear kf kg
    go_wp2_with fail
    refine (sameInts_yes _ _ _ _ _ pl _ RX1.out RX2.out hle1).mono ?_
    rintro e w7 ⟨rfl, dd, rfl⟩
    replace CH := Lib.hid (CH.out.next (below_drewN (Below.refl _ _) dd))
    clear RX1 RX2 c0 c1 c2 d0 d1 d2
    have kf := CH.out.kf
    have kg := CH.out.kg
    have c0 := kf.cellv 0 (v := .int .i64 a) rfl
    have c1 := kf.cellv 1 (v := .int .i64 b) rfl
    have c2 := kf.cellv 2 (v := .slice A n c) rfl
    have d0 := kg.cellv 0 (v := .int .i64 a) rfl
    have d1 := kg.cellv 1 (v := .int .i64 b) rfl
    have d2 := kg.cellv 2 (v := .slice A1 n cg) rfl
    clear kf kg
    go_wp2_with fail
    refine (S1.out _ CH.out).mono ?_
    rintro e x ⟨v, rfl, hown, hb⟩
    obtain ⟨X3, cX3, rfl, _, _, _⟩ := own_form hown
    replace CH := Lib.hid (CH.out.next hb)
    skip
    have RX3 := Lib.hid (Reads.of_own hown)
    clear hb c0 c1 c2 d0 d1 d2 hown
    have kf := CH.out.kf
    have kg := CH.out.kg
    have c0 := kf.cellv 0 (v := .int .i64 a) rfl
    have c1 := kf.cellv 1 (v := .int .i64 b) rfl
    have c2 := kf.cellv 2 (v := .slice A n c) rfl
    have d0 := kg.cellv 0 (v := .int .i64 a) rfl
    have d1 := kg.cellv 1 (v := .int .i64 b) rfl
    have d2 := kg.cellv 2 (v := .slice A1 n cg) rfl
    clear kf kg
    go_wp2_with fail
    refine (S2.out _ CH.out).mono ?_
    rintro e x ⟨v, rfl, hown, hb⟩
    obtain ⟨X4, cX4, rfl, _, _, _⟩ := own_form hown
    replace CH := Lib.hid (CH.out.next hb)
    replace RX3 := Lib.hid ((RX3.out.below hb).more hb.size)
    have RX4 := Lib.hid (Reads.of_own hown)
    clear hb c0 c1 c2 d0 d1 d2 hown
    have kf := CH.out.kf
    have kg := CH.out.kg
    have c0 := kf.cellv 0 (v := .int .i64 a) rfl
    have c1 := kf.cellv 1 (v := .int .i64 b) rfl
    have c2 := kf.cellv 2 (v := .slice A n c) rfl
    have d0 := kg.cellv 0 (v := .int .i64 a) rfl
    have d1 := kg.cellv 1 (v := .int .i64 b) rfl
    have d2 := kg.cellv 2 (v := .slice A1 n cg) rfl
    clear kf kg
    go_wp2_with fail
    refine (sameInts_yes _ _ _ _ _ al _ RX3.out RX4.out hle2).mono ?_
    rintro e w8 ⟨rfl, dd2, rfl⟩
    replace CH := Lib.hid (CH.out.next (below_drewN (Below.refl _ _) dd2))
    clear RX3 RX4 c0 c1 c2 d0 d1 d2
    have kf := CH.out.kf
    have kg := CH.out.kg
    have c0 := kf.cellv 0 (v := .int .i64 a) rfl
    have c1 := kf.cellv 1 (v := .int .i64 b) rfl
    have c2 := kf.cellv 2 (v := .slice A n c) rfl
    have d0 := kg.cellv 0 (v := .int .i64 a) rfl
    have d1 := kg.cellv 1 (v := .int .i64 b) rfl
    have d2 := kg.cellv 2 (v := .slice A1 n cg) rfl
    clear kf kg
    go_wp2_with fail
    refine (same_yes a b A1 A n cg c l _ CH.out.rg CH.out.rf).mono ?_
    rintro e w9 ⟨rfl, hb⟩
    replace CH := Lib.hid (CH.out.next hb)
    clear hb c0 c1 c2 d0 d1 d2
    go_wp2
    go_ret
    exact ⟨rfl, CH.out.bel⟩

theorem floorCells.floorCells_walk (a b : Int) (A : Option Addr) (n c : Nat) (l : List UInt8) (t p : Int) (w : World) (hr : Reads w w.heap.size 1 A n (bv l)) (hnc : n ≤ c) (hc : c ≤ 140737488351232) (_ : (Lit.int .i64 t).wf = true) (_ : (Lit.int .i64 p).wf = true) :
    Calls Try.prog 5 #[.agg #[.int .i64 a, .int .i64 b, .slice A n c], .int .i64 t, .int .i64 p] w fun e w' => e = .returned (.bool true) ∧ Below w.heap.size w w' := fcells_ok a b A n c l t p w hr (by omega)
end Go.Proofs.Ythehkapaipfoaaa
