/-
  FLOORTRANSPOSED: the walk.
-/
import Derived.Test.YthehkapaipfoaaaTrMath
import Derived.Test.YthehkapaipfoaaaFlText
import Derived.BigQuiet
import Derived.BigRegion
namespace Go.Proofs.Ythehkapaipfoaaa.floorTransposed
set_option linter.unusedVariables false
set_option linter.unusedSimpArgs false
set_option maxRecDepth 100000
open Go.RowKit

theorem is_same (n : Int) (w : World) : Calls Try.prog 26 #[.int .i64 n, .int .i64 0, .int .i64 n] w fun e w' => e = .returned (.bool true) ∧ w' = w := (is_true n w).mono fun _ _ h => ⟨h.1, h.2.symm⟩
/-- the index of one cell. -/
theorem tr_idx {a b : Int} {l : List UInt8} (h : floorB a b l = true) {i : Nat} (hi : i < l.length) :
    ∃ (X Y M : Int) (z : Nat) (c : UInt8), (i : Int) % b = X ∧ (i : Int).tmod b = X ∧ (i : Int) / b = Y ∧ (i : Int).tdiv b = Y ∧ X * a = M ∧ M + Y = (z : Int) ∧ z < l.length ∧ l[z]? = some c ∧ l.getD (trI a b i) 0 = c ∧
      (0 ≤ X ∧ X ≤ 8) ∧ (0 ≤ Y ∧ Y ≤ 8) ∧ (0 ≤ M ∧ M ≤ 64) := by
  obtain ⟨⟨ha, hb⟩, hl, _⟩ := floorB_yes h
  obtain ⟨⟨x0, x1⟩, ⟨y0, y1⟩, m, z0, z1, _⟩ := tr_bd ha hb (i := (i : Int)) ⟨by omega, by omega⟩
  obtain ⟨z, hz⟩ := Int.eq_ofNat_of_zero_le z0
  have hzl : z < l.length := by omega
  have hc := List.getElem?_eq_getElem hzl
  refine ⟨_, _, _, z, l[z], rfl, Int.tmod_eq_emod_of_nonneg (by omega), rfl, Int.tdiv_eq_ediv_of_nonneg (by omega), rfl, hz, hzl, hc, ?_, ⟨x0, by omega⟩, ⟨y0, by omega⟩, m⟩
  unfold trI
  rw [hz]
  simp [List.getD, hc]

/-- the place behind an exchange, as the walk reckons it. -/
theorem tr_arg {a b p : Int} (hp : onB a b p = true) : ∃ X Y M Z : Int, p % a = X ∧ p.tmod a = X ∧ p / a = Y ∧ p.tdiv a = Y ∧ X * b = M ∧ M + Y = Z ∧ p % a * b + p / a = Z ∧ (0 ≤ X ∧ X ≤ 8) ∧ (0 ≤ Y ∧ Y ≤ 8) ∧ (0 ≤ M ∧ M ≤ 64) ∧ (0 ≤ Z ∧ Z ≤ 64) := by
  obtain ⟨⟨ha, hb⟩, hp'⟩ := (onB_iff _ _ _).1 hp
  obtain ⟨⟨x0, x1⟩, ⟨y0, y1⟩, m, z0, z1, _⟩ := tr_bd hb ha (i := p) (by rw [Int.mul_comm]; exact hp')
  have hs := (size_bd hb ha).2
  exact ⟨_, _, _, _, rfl, Int.tmod_eq_emod_of_nonneg hp'.1, rfl, Int.tdiv_eq_ediv_of_nonneg hp'.1, rfl, rfl, rfl, ⟨x0, by omega⟩, ⟨y0, by omega⟩, m, ⟨z0, by omega⟩⟩

set_option maxHeartbeats 3200000 in
theorem tr_bad (a b : Int) (A : Option Addr) (n c : Nat) (l : List UInt8) (p q : Int) (w : World) (hr : Reads w w.heap.size 1 A n (bv l)) (hn : n ≤ 140737488351232) (hv : floorB a b l = false) :
    Calls Try.prog 14 #[.agg #[.int .i64 a, .int .i64 b, .slice A n c], .int .i64 p, .int .i64 q] w fun e w' => e = .returned (.bool true) ∧ Below w.heap.size w w' := by
  have FB := Lib.hid (fbox w a b (.slice A n c))
  have V := Lib.hid (fun W (hb : Below w.heap.size w W) => validFloor_any a b A n c l W ((hr.below hb).more hb.size) hn)
  rw [hv] at V
  clear hv hr
  go_enter Try.func14, Try.ntmps14
  go_wp2_with fail
  refine (falive_true _).mono ?_
  rintro e x ⟨rfl, hb⟩
  replace FB := Lib.hid (FB.out.next hb)
  clear hb
  have c0 := FB.out.kf.cellv 0 (v := .int .i64 a) rfl
  have c1 := FB.out.kf.cellv 1 (v := .int .i64 b) rfl
  have c2 := FB.out.kf.cellv 2 (v := .slice A n c) rfl
  go_wp2_with fail
  refine (V.out _ FB.out.bel).mono ?_
  rintro e x ⟨rfl, hb⟩
  replace FB := Lib.hid (FB.out.next hb)
  clear hb c0 c1 c2
  have c0 := FB.out.kf.cellv 0 (v := .int .i64 a) rfl
  have c1 := FB.out.kf.cellv 1 (v := .int .i64 b) rfl
  have c2 := FB.out.kf.cellv 2 (v := .slice A n c) rfl
  go_wp2
  go_ret
  exact ⟨rfl, FB.out.bel⟩

set_option maxHeartbeats 12800000 in
theorem tr_ok (a b : Int) (A : Option Addr) (n c : Nat) (l : List UInt8) (p q : Int) (w : World) (hr : Reads w w.heap.size 1 A n (bv l)) (hn : n ≤ 140737488351232) (hv : floorB a b l = true) :
    Calls Try.prog 14 #[.agg #[.int .i64 a, .int .i64 b, .slice A n c], .int .i64 p, .int .i64 q] w fun e w' => e = .returned (.bool true) ∧ Below w.heap.size w w' := by
  obtain ⟨i0, hi, hz0, hz1, hz2⟩ := info_parts u8_info'
  have hlen : l.length = n := by have := hr.1; simpa using this
  have hll := floorB_len hv
  obtain ⟨⟨ha, hb'⟩, hab, _⟩ := floorB_yes hv
  have FB := Lib.hid (fbox w a b (.slice A n c))
  have RW := Lib.hid (fun W (hb : Below w.heap.size w W) => hr.below hb)
  have V := Lib.hid (fun W (hb : Below w.heap.size w W) => validFloor_any a b A n c l W ((hr.below hb).more hb.size) hn)
  rw [hv] at V
  have TI := Lib.hid (fun i (h : i < n) => tr_idx hv (i := i) (by omega))
  have n4 : 4 ≤ n := by omega
  have n64 : n ≤ 64 := by omega
  have hft := floorB_tr hv
  have htl : (trL l a b n).length = n := trL_len _ _ _ _
  rw [hlen] at hft
  obtain ⟨t, ht⟩ : ∃ t, t = trL l a b n := ⟨_, rfl⟩
  rw [← ht] at hft htl
  obtain ⟨D, hD⟩ : ∃ D : ByteArray, D = ⟨(drawTo l a l.length).toArray⟩ := ⟨_, rfl⟩
  obtain ⟨E, hE⟩ : ∃ E : ByteArray, E = ⟨(drawTo t b t.length).toArray⟩ := ⟨_, rfl⟩
  have hDs : (D.size : Int) = (n : Int) + b := by
    have e9 := (parse_draw hv).2
    have e8 : (a + 1) * b = (n : Int) + b := by rw [Int.add_mul, Int.one_mul]; omega
    rw [← e8, ← e9, hD]; rfl
  have hEs : (E.size : Int) = (n : Int) + a := by
    have e9 := (parse_draw hft).2
    have e8 : (b + 1) * a = (n : Int) + a := by rw [Int.add_mul, Int.one_mul, Int.mul_comm b a]; omega
    rw [← e8, ← e9, hE]; rfl
  have TP := Lib.hid (fun i (h : i < n) => tr_place hv (i := i) (by omega) (D := D) (E := E) (by rw [hD]) (by rw [hE, htl, ht, hlen]))
  have D1 := Lib.hid (fun W (hr : Reads W W.heap.size 1 A n (bv l)) => draw_any a b A n c l W hr hn)
  have D2 := Lib.hid (fun A1 c1 W (hr : Reads W W.heap.size 1 A1 n (bv t)) => draw_any b a A1 n c1 t W hr hn)
  rw [show drawS a b l = (drawTo l a l.length, 0) from by unfold drawS; rw [if_pos hv]] at D1
  rw [show drawS b a t = (drawTo t b t.length, 0) from by unfold drawS; rw [if_pos hft]] at D2
  simp only [← hD] at D1
  simp only [← hE] at D2
  have O1 := Lib.hid (fun (p : Int) W (hr : Reads W W.heap.size 1 A n (bv l)) => owner_any a b A n c l p W hr hn)
  have O2 := Lib.hid (fun A1 c1 (p : Int) W (hr : Reads W W.heap.size 1 A1 n (bv t)) => owner_any b a A1 n c1 t p W hr hn)
  have L1 := Lib.hid (fun (i : Int) W => locateP_any a b i W)
  have P1 := Lib.hid (fun (y x : Int) W => placeP_any b a y x W)
  have RO := Lib.hid (fun (p : Int) W => on_any a b p W)
  have HT := Lib.hid ht
  have HTL := Lib.hid htl
  rw [hlen, ← ht] at TP
  have DS := Lib.hid (fun p q W => distP_any a b p q W)
  have DS2 := Lib.hid (fun p q W => distP_any b a p q W)
  have hne1 : ((D.size : Int) != (n : Int) + b) = false := by rw [hDs]; simp
  have hne2 : ((E.size : Int) != (n : Int) + a) = false := by rw [hEs]; simp
  have hdb : (D.size : Int) ≤ 100 := by omega
  have heb : (E.size : Int) ≤ 100 := by omega
  clear hft htl ht hD hE hDs hEs
  have hn' := hn
  have HV := Lib.hid hv
  have HLEN := Lib.hid hlen
  have az : (a == 0) = false := by rw [beq_eq_false_iff_ne]; omega
  have bz : (b == 0) = false := by rw [beq_eq_false_iff_ne]; omega
  have anz : ¬ a = 0 := by omega
  have bnz : ¬ b = 0 := by omega
  obtain ⟨a2, a8⟩ := ha
  obtain ⟨b2, b8⟩ := hb'
  clear hv hr hlen hll hab hn'
  go_enter Try.func14, Try.ntmps14
  go_wp2_with fail
  refine (falive_true _).mono ?_
  rintro e x ⟨rfl, hb⟩
  replace FB := Lib.hid (FB.out.next hb)
  clear hb
  have c0 := FB.out.kf.cellv 0 (v := .int .i64 a) rfl
  have c1 := FB.out.kf.cellv 1 (v := .int .i64 b) rfl
  have c2 := FB.out.kf.cellv 2 (v := .slice A n c) rfl
  go_wp2_with fail
  refine (V.out _ FB.out.bel).mono ?_
  rintro e x ⟨rfl, hb⟩
  replace FB := Lib.hid (FB.out.next hb)
  clear hb c0 c1 c2
  have c0 := FB.out.kf.cellv 0 (v := .int .i64 a) rfl
  have c1 := FB.out.kf.cellv 1 (v := .int .i64 b) rfl
  have c2 := FB.out.kf.cellv 2 (v := .slice A n c) rfl
  have TR := Lib.hid (tW_made FB.out (RW.out _ FB.out.bel))
  go_upto_region 5 with fail
  generalize World.alloc _ _ = X at TR ⊢
  generalize x.heap.size = g at TR ⊢
  clear c0 c1 c2 FB
  go_wp2
  go_loopw [9] (fun i wr => ∃ (k : Nat) (v : Value), k ≤ n ∧ i = .int .i64 (k : Int) ∧ Hid (TW w wr a b A n c l g v (trL l a b k)))
    (fun i _ => n - (intOf i).toNat)
  case atStart => exact ⟨0, _, Nat.zero_le _, rfl, TR⟩
  case round =>
    obtain ⟨k, v, hk, rfl, hTR⟩ := hrel
    clear TR
    have TR := hTR
    clear hTR
    have c0 := TR.out.kf.cellv 0 (v := .int .i64 a) rfl
    have c1 := TR.out.kf.cellv 1 (v := .int .i64 b) rfl
    have c2 := TR.out.kf.cellv 2 (v := .slice A n c) rfl
    by_cases hlt : k < n
    · obtain ⟨X, Y, M, z, cl, t1, t1', t2, t2', t3, t4, hz, hc, hcl, ⟨hX0, hX8⟩, ⟨hY0, hY8⟩, ⟨hM0, hM64⟩⟩ := TI.out k hlt
      rw [HLEN.out] at hz
      have TD : Hid (TW w wr.drew a b A n c l g v (trL l a b k)) := Lib.hid (TR.out.next (Below.refl _ _).drew)
      have hlt2 : g + 1 ≤ wr.drew.heap.size := TD.out.kg.lt
      have hlt3 : g + 1 ≤ wr.heap.size := hlt2
      have HC := Lib.hid hcl
      have d2 := TR.out.kg.cellv 2 (v := v) rfl
      obtain ⟨ad, c', rfl, hadl, hc2, hcx⟩ := cells_at TR.out.rf hz
      rw [hc] at hc2
      injection hc2 with hc2
      subst hc2
      have HTL := Lib.hid (trL_len l a b k)
      have k0 : (0 : Int) ≤ (k : Int) := by omega
      have k1 : (k : Int) < (n : Int) := by omega
      have z1 : (z : Int) < (n : Int) := by omega
      have u1 : IntKind.i64.wrap M = M := IntWalk.i64_in _ (by omega)
      have u3 : IntKind.i64.wrap Y = Y := IntWalk.i64_in _ (by omega)
      have u2 : IntKind.i64.wrap (z : Int) = (z : Int) := IntWalk.i64_in _ (by omega)
      clear hc hcl
      go_wp2
      have hlt4 : w.heap.size + 1 ≤ wr.heap.size := by have := TR.out.hg; omega
      have hgw := TR.out.hg
      have HK : Hid (∀ W', Below (w.heap.size + 1) wr W' → W'.cell? ⟨w.heap.size, 0, none⟩ = some (.int .i64 a) ∧ W'.cell? ⟨w.heap.size, 1, none⟩ = some (.int .i64 b) ∧ W'.cell? ⟨w.heap.size, 2, none⟩ = some (.slice (some ad) n c) ∧ W'.cell? (ad.add z) = some (.int .u8 (cl.toNat : Int))) :=
        Lib.hid (fun W' hb => ⟨(hb.cell (p := ⟨w.heap.size, 0, none⟩) (Nat.lt_succ_self _)).trans c0, (hb.cell (p := ⟨w.heap.size, 1, none⟩) (Nat.lt_succ_self _)).trans c1, (hb.cell (p := ⟨w.heap.size, 2, none⟩) (Nat.lt_succ_self _)).trans c2, (hb.cell (p := ad.add z) (by have h9 := Nat.lt_succ_of_lt hadl; unfold Addr.add; split <;> exact h9)).trans hcx⟩)
      have d2' : (wr.alloc (.cells #[.int .u8 (cl.toNat : Int)] 5)).cell? ⟨g, 2, none⟩ = some v := (TR.out.kg.alloc _).cellv 2 (v := v) rfl
      refine wp_region_held_drew (S := (fun w' => w'.cell? ⟨w.heap.size, 0, none⟩ = some (.int .i64 a) ∧ w'.cell? ⟨w.heap.size, 1, none⟩ = some (.int .i64 b) ∧ w'.cell? ⟨w.heap.size, 2, none⟩ = some (.slice (some ad) n c) ∧ w'.cell? (ad.add z) = some (.int .u8 (cl.toNat : Int)))) (by kernel_rfl) (HK.out _ (Below.drew (Below.refl _ _))) (fun hHeld => ?_)
      refine wpAnyH_take (i := 0) (oi := { dst := some 47, op := Op.fieldAddr 34 (Operand.tmp 8) 2, type := 0, pos := "outright.go:291", after := #[], guard := none }) (v := ?_) rfl (by kernel_rfl) (by kernel_rfl) (by kernel_rfl) (fun _ _ _ h => h) (Or.inl ⟨by rfl, ?_⟩) (by assumption) ?_
      rotate_left
      · intro w hSw
        (try dsimp only at hSw)
        go_simp
        (try with_reducible rfl)
      simp only [Act.put, List.setIfInBounds_toArray, List.set_cons_zero, List.set_cons_succ]
      refine wpAnyH_take (i := 2) (oi := { dst := some 49, op := Op.fieldAddr 34 (Operand.tmp 3) 2, type := 0, pos := "outright.go:291", after := #[], guard := none }) (v := ?_) rfl (by kernel_rfl) (by kernel_rfl) (by kernel_rfl) (fun _ _ _ h => h) (Or.inl ⟨by rfl, ?_⟩) (by assumption) ?_
      rotate_left
      · intro w hSw
        (try dsimp only at hSw)
        go_simp
        (try with_reducible rfl)
      simp only [Act.put, List.setIfInBounds_toArray, List.set_cons_zero, List.set_cons_succ]
      refine wpAnyH_take (i := 3) (oi := { dst := some 50, op := Op.load 32 (Operand.tmp 49), type := 32, pos := "outright.go:291", after := #[{ on := 2, ground := Ground.data }], guard := none }) (v := ?_) rfl (by kernel_rfl) (by kernel_rfl) (by kernel_rfl) (fun _ _ _ h => h) (Or.inl ⟨by rfl, ?_⟩) (by assumption) ?_
      rotate_left
      · intro w hSw
        (try dsimp only at hSw)
        go_simp
        (try with_reducible rfl)
      simp only [Act.put, List.setIfInBounds_toArray, List.set_cons_zero, List.set_cons_succ]
      refine wpAnyH_take (i := 4) (oi := { dst := some 51, op := Op.move (Operand.tmp 9), type := 3, pos := "outright.go:291", after := #[], guard := none }) (v := ?_) rfl (by kernel_rfl) (by kernel_rfl) (by kernel_rfl) (fun _ _ _ h => h) (Or.inl ⟨by rfl, ?_⟩) (by assumption) ?_
      rotate_left
      · intro w hSw
        (try dsimp only at hSw)
        go_simp
        (try with_reducible rfl)
      simp only [Act.put, List.setIfInBounds_toArray, List.set_cons_zero, List.set_cons_succ]
      refine wpAnyH_take (i := 5) (oi := { dst := some 52, op := Op.fieldAddr 34 (Operand.tmp 3) 1, type := 0, pos := "outright.go:291", after := #[], guard := none }) (v := ?_) rfl (by kernel_rfl) (by kernel_rfl) (by kernel_rfl) (fun _ _ _ h => h) (Or.inl ⟨by rfl, ?_⟩) (by assumption) ?_
      rotate_left
      · intro w hSw
        (try dsimp only at hSw)
        go_simp
        (try with_reducible rfl)
      simp only [Act.put, List.setIfInBounds_toArray, List.set_cons_zero, List.set_cons_succ]
      refine wpAnyH_take (i := 6) (oi := { dst := some 53, op := Op.load 3 (Operand.tmp 52), type := 3, pos := "outright.go:291", after := #[{ on := 5, ground := Ground.data }], guard := none }) (v := ?_) rfl (by kernel_rfl) (by kernel_rfl) (by kernel_rfl) (fun _ _ _ h => h) (Or.inl ⟨by rfl, ?_⟩) (by assumption) ?_
      rotate_left
      · intro w hSw
        (try dsimp only at hSw)
        go_simp
        (try with_reducible rfl)
      simp only [Act.put, List.setIfInBounds_toArray, List.set_cons_zero, List.set_cons_succ]
      refine wpAnyH_take (i := 7) (oi := { dst := some 54, op := Op.binOp BinOp.rem 3 (Operand.tmp 51) (Operand.tmp 53) 3, type := 3, pos := "outright.go:291", after := #[{ on := 4, ground := Ground.data }, { on := 6, ground := Ground.data }], guard := none }) (v := ?_) rfl (by kernel_rfl) (by kernel_rfl) (by kernel_rfl) (fun _ _ _ h => h) (Or.inl ⟨by rfl, ?_⟩) (by assumption) ?_
      rotate_left
      · intro w hSw
        (try dsimp only at hSw)
        go_simp
        (try with_reducible rfl)
      simp only [Act.put, List.setIfInBounds_toArray, List.set_cons_zero, List.set_cons_succ]
      refine wpAnyH_take (i := 8) (oi := { dst := some 55, op := Op.fieldAddr 34 (Operand.tmp 3) 0, type := 0, pos := "outright.go:291", after := #[], guard := none }) (v := ?_) rfl (by kernel_rfl) (by kernel_rfl) (by kernel_rfl) (fun _ _ _ h => h) (Or.inl ⟨by rfl, ?_⟩) (by assumption) ?_
      rotate_left
      · intro w hSw
        (try dsimp only at hSw)
        go_simp
        (try with_reducible rfl)
      simp only [Act.put, List.setIfInBounds_toArray, List.set_cons_zero, List.set_cons_succ]
      refine wpAnyH_take (i := 9) (oi := { dst := some 56, op := Op.load 3 (Operand.tmp 55), type := 3, pos := "outright.go:291", after := #[{ on := 8, ground := Ground.data }], guard := none }) (v := ?_) rfl (by kernel_rfl) (by kernel_rfl) (by kernel_rfl) (fun _ _ _ h => h) (Or.inl ⟨by rfl, ?_⟩) (by assumption) ?_
      rotate_left
      · intro w hSw
        (try dsimp only at hSw)
        go_simp
        (try with_reducible rfl)
      simp only [Act.put, List.setIfInBounds_toArray, List.set_cons_zero, List.set_cons_succ]
      refine wpAnyH_take (i := 10) (oi := { dst := some 57, op := Op.binOp BinOp.mul 3 (Operand.tmp 54) (Operand.tmp 56) 3, type := 3, pos := "outright.go:291", after := #[{ on := 7, ground := Ground.data }, { on := 9, ground := Ground.data }], guard := none }) (v := ?_) rfl (by kernel_rfl) (by kernel_rfl) (by kernel_rfl) (fun _ _ _ h => h) (Or.inl ⟨by rfl, ?_⟩) (by assumption) ?_
      rotate_left
      · intro w hSw
        (try dsimp only at hSw)
        go_simp
        (try with_reducible rfl)
      simp only [Act.put, List.setIfInBounds_toArray, List.set_cons_zero, List.set_cons_succ]
      refine wpAnyH_take (i := 11) (oi := { dst := some 58, op := Op.move (Operand.tmp 9), type := 3, pos := "outright.go:291", after := #[], guard := none }) (v := ?_) rfl (by kernel_rfl) (by kernel_rfl) (by kernel_rfl) (fun _ _ _ h => h) (Or.inl ⟨by rfl, ?_⟩) (by assumption) ?_
      rotate_left
      · intro w hSw
        (try dsimp only at hSw)
        go_simp
        (try with_reducible rfl)
      simp only [Act.put, List.setIfInBounds_toArray, List.set_cons_zero, List.set_cons_succ]
      refine wpAnyH_take (i := 12) (oi := { dst := some 59, op := Op.fieldAddr 34 (Operand.tmp 3) 1, type := 0, pos := "outright.go:291", after := #[], guard := none }) (v := ?_) rfl (by kernel_rfl) (by kernel_rfl) (by kernel_rfl) (fun _ _ _ h => h) (Or.inl ⟨by rfl, ?_⟩) (by assumption) ?_
      rotate_left
      · intro w hSw
        (try dsimp only at hSw)
        go_simp
        (try with_reducible rfl)
      simp only [Act.put, List.setIfInBounds_toArray, List.set_cons_zero, List.set_cons_succ]
      refine wpAnyH_take (i := 13) (oi := { dst := some 60, op := Op.load 3 (Operand.tmp 59), type := 3, pos := "outright.go:291", after := #[{ on := 12, ground := Ground.data }], guard := none }) (v := ?_) rfl (by kernel_rfl) (by kernel_rfl) (by kernel_rfl) (fun _ _ _ h => h) (Or.inl ⟨by rfl, ?_⟩) (by assumption) ?_
      rotate_left
      · intro w hSw
        (try dsimp only at hSw)
        go_simp
        (try with_reducible rfl)
      simp only [Act.put, List.setIfInBounds_toArray, List.set_cons_zero, List.set_cons_succ]
      refine wpAnyH_take (i := 14) (oi := { dst := some 61, op := Op.binOp BinOp.quo 3 (Operand.tmp 58) (Operand.tmp 60) 3, type := 3, pos := "outright.go:291", after := #[{ on := 11, ground := Ground.data }, { on := 13, ground := Ground.data }], guard := none }) (v := ?_) rfl (by kernel_rfl) (by kernel_rfl) (by kernel_rfl) (fun _ _ _ h => h) (Or.inl ⟨by rfl, ?_⟩) (by assumption) ?_
      rotate_left
      · intro w hSw
        (try dsimp only at hSw)
        go_simp
        (try with_reducible rfl)
      simp only [Act.put, List.setIfInBounds_toArray, List.set_cons_zero, List.set_cons_succ]
      refine wpAnyH_take (i := 15) (oi := { dst := some 62, op := Op.binOp BinOp.add 3 (Operand.tmp 57) (Operand.tmp 61) 3, type := 3, pos := "outright.go:291", after := #[{ on := 10, ground := Ground.data }, { on := 14, ground := Ground.data }], guard := none }) (v := ?_) rfl (by kernel_rfl) (by kernel_rfl) (by kernel_rfl) (fun _ _ _ h => h) (Or.inl ⟨by rfl, ?_⟩) (by assumption) ?_
      rotate_left
      · intro w hSw
        (try dsimp only at hSw)
        go_simp
        (try with_reducible rfl)
      simp only [Act.put, List.setIfInBounds_toArray, List.set_cons_zero, List.set_cons_succ]
      refine wpAnyH_take (i := 16) (oi := { dst := some 63, op := Op.indexAddr 32 (Operand.tmp 50) (Operand.tmp 62), type := 0, pos := "outright.go:291", after := #[{ on := 3, ground := Ground.data }, { on := 15, ground := Ground.data }], guard := none }) (v := ?_) rfl (by kernel_rfl) (by kernel_rfl) (by kernel_rfl) (fun _ _ _ h => h) (Or.inl ⟨by rfl, ?_⟩) (by assumption) ?_
      rotate_left
      · intro w hSw
        (try dsimp only at hSw)
        go_simp
        (try with_reducible rfl)
      simp only [Act.put, List.setIfInBounds_toArray, List.set_cons_zero, List.set_cons_succ]
      refine wpAnyH_take (i := 17) (oi := { dst := some 64, op := Op.load 5 (Operand.tmp 63), type := 5, pos := "outright.go:291", after := #[{ on := 16, ground := Ground.data }], guard := none }) (v := ?_) rfl (by kernel_rfl) (by kernel_rfl) (by kernel_rfl) (fun _ _ _ h => h) (Or.inl ⟨by rfl, ?_⟩) (by assumption) ?_
      rotate_left
      · intro w hSw
        (try dsimp only at hSw)
        go_simp
        (try with_reducible rfl)
      simp only [Act.put, List.setIfInBounds_toArray, List.set_cons_zero, List.set_cons_succ]
      refine wpAnyH_ready (rs := [1, 18]) (by kernel_rfl) (by simp) ?_
      refine AllReadyH.cons (o := { dst := some 48, op := Op.load 32 (Operand.tmp 47), type := 32, pos := "outright.go:291", after := #[{ on := 0, ground := Ground.data }], guard := none }) rfl (fun K hK => ?_) (AllReadyH.cons (o := { dst := some 65, op := Op.buildSlice 32 1 #[(0, Operand.tmp 64)], type := 32, pos := "outright.go:291", after := #[{ on := 17, ground := Ground.data }], guard := none }) rfl (fun K hK => ?_) AllReadyH.nil)
      · go_simp
        refine hK.out _ _ (HK.out _ (Below.drew (Below.refl _ _))) (fun hHeld => ?_)
        clear hK
        (try simp only [Act.put, List.setIfInBounds_toArray, List.set_cons_zero, List.set_cons_succ])
        refine wpAnyH_ready (rs := [18]) (by kernel_rfl) (by simp) ?_
        refine AllReadyH.cons (o := { dst := some 65, op := Op.buildSlice 32 1 #[(0, Operand.tmp 64)], type := 32, pos := "outright.go:291", after := #[{ on := 17, ground := Ground.data }], guard := none }) rfl (fun K hK => ?_) AllReadyH.nil
        go_simp
        refine hK.out _ _ (HK.out _ ((Below.drew (Below.refl _ _)).alloc (by exact hlt4) _)) (fun hHeld => ?_)
        clear hK
        (try simp only [Act.put, List.setIfInBounds_toArray, List.set_cons_zero, List.set_cons_succ])
        refine wpAnyH_ready (rs := [19]) (by kernel_rfl) (by simp) ?_
        refine AllReadyH.cons (o := { dst := some 66, op := Op.call { callee := Callee.builtin Builtin.append, args := #[Operand.tmp 48, Operand.tmp 65], argTypes := #[32, 32] }, type := 32, pos := "outright.go:291", after := #[{ on := 1, ground := Ground.data }, { on := 18, ground := Ground.data }], guard := none }) rfl (fun K hK => ?_) AllReadyH.nil
        (refine step_append_any _ rfl (.tmp 48) (.tmp 65) 32 rfl (g + 1) 5 i0 (.int .u8 0) 1 1 Try.underlying32 hi hz0 hz1 hz2 rfl (by decide) _ _ _ (by simp [Act.eval, Act.put]) (TD.out.own.alloc _) (wr.drew.heap.size + 1) _ 1 1 _ (by simp [Act.eval, Act.put]) (reads_new1 (u := u8v cl) _ _ rfl) (bv_oneCell [_]) (by rw [HTL.out]; unfold maxLen; omega) (by rw [HTL.out]; omega) (by simp; omega) ?_; intro v4 w4 hown4 hg4 _; obtain ⟨A4, c4, rfl, _, _, _⟩ := own_form hown4; have hx4 : Below (g + 1) wr.drew w4 := ((Below.refl _ _).alloc hlt2 _).grown hg4 (by simp; omega) (fun y hy => (TD.out.own.lt y hy).1); have p2 := (TD.out.kg.below hx4 (by omega)).cellv 2 (v := v) rfl; have q2 := (TD.out.kg.below hx4 (by omega)).frozen 2; have HX4 := Lib.hid hx4; have HO4 := Lib.hid hown4; have hxA : Below (w.heap.size + 1) wr w4 := (Below.refl _ _).drew.trans (hx4.mono (by omega)); have hxB : Below (w.heap.size + 1) wr (w4.setCell ⟨g, 2, none⟩ (.slice A4 ((trL l a b k).length + 1) c4)) := hxA.setCell (by simp; omega) _; clear hx4 hown4 hg4)
        refine hK.out _ _ (HK.out _ hxA) (fun hHeld => ?_)
        clear hK
        (try simp only [Act.put, List.setIfInBounds_toArray, List.set_cons_zero, List.set_cons_succ])
        refine wpAnyH_take (i := 20) (oi := { dst := some 67, op := Op.fieldAddr 34 (Operand.tmp 8) 2, type := 0, pos := "outright.go:291", after := #[{ on := 0, ground := Ground.phase }, { on := 1, ground := Ground.phase }, { on := 2, ground := Ground.phase }, { on := 3, ground := Ground.phase }, { on := 4, ground := Ground.phase }, { on := 5, ground := Ground.phase }, { on := 6, ground := Ground.phase }, { on := 7, ground := Ground.phase }, { on := 8, ground := Ground.phase }, { on := 9, ground := Ground.phase }, { on := 10, ground := Ground.phase }, { on := 11, ground := Ground.phase }, { on := 12, ground := Ground.phase }, { on := 13, ground := Ground.phase }, { on := 14, ground := Ground.phase }, { on := 15, ground := Ground.phase }, { on := 16, ground := Ground.phase }, { on := 17, ground := Ground.phase }, { on := 18, ground := Ground.phase }, { on := 19, ground := Ground.phase }], guard := none }) (v := ?_) rfl (by kernel_rfl) (by kernel_rfl) (by kernel_rfl) (fun _ _ _ h => h) (Or.inl ⟨by rfl, ?_⟩) (by assumption) ?_
        rotate_left
        · intro w hSw
          (try dsimp only at hSw)
          go_simp
          (try with_reducible rfl)
        simp only [Act.put, List.setIfInBounds_toArray, List.set_cons_zero, List.set_cons_succ]
        refine wpAnyH_ready (rs := [21]) (by kernel_rfl) (by simp) ?_
        refine AllReadyH.cons (o := { dst := none, op := Op.store 32 (Operand.tmp 67) (Operand.tmp 66), type := 0, pos := "outright.go:291", after := #[{ on := 20, ground := Ground.data }, { on := 19, ground := Ground.data }, { on := 19, ground := Ground.chain }, { on := 0, ground := Ground.phase }, { on := 1, ground := Ground.phase }, { on := 2, ground := Ground.phase }, { on := 3, ground := Ground.phase }, { on := 4, ground := Ground.phase }, { on := 5, ground := Ground.phase }, { on := 6, ground := Ground.phase }, { on := 7, ground := Ground.phase }, { on := 8, ground := Ground.phase }, { on := 9, ground := Ground.phase }, { on := 10, ground := Ground.phase }, { on := 11, ground := Ground.phase }, { on := 12, ground := Ground.phase }, { on := 13, ground := Ground.phase }, { on := 14, ground := Ground.phase }, { on := 15, ground := Ground.phase }, { on := 16, ground := Ground.phase }, { on := 17, ground := Ground.phase }, { on := 18, ground := Ground.phase }, { on := 19, ground := Ground.phase }], guard := none }) rfl (fun K hK => ?_) AllReadyH.nil
        go_simp
        refine hK.out _ _ (HK.out _ hxB) (fun hHeld => ?_)
        clear hK
        (try simp only [Act.put, List.setIfInBounds_toArray, List.set_cons_zero, List.set_cons_succ])
        refine wpAnyH_done (by kernel_rfl) ?_ _
        have HO5 : Hid (w4.ownsRow (g + 1) 5 1 (.slice A4 ((trL l a b k).length + 1) c4) ((trL l a b k).length + 1) (bv (trL l a b k) ++ [u8v cl])) := by assumption
        have HN := Lib.hid (TD.out.app (t' := trL l a b (k + 1)) HX4.out (by rw [trL_snoc, HC.out, bv_append, List.length_append]; exact HO5.out))
        go_wp2
        go_roundw
        case rel => exact ⟨k + 1, _, by omega, by go_num, HN⟩
        case measure => simp [intOf]; omega
      · go_simp
        refine hK.out _ _ (HK.out _ ((Below.drew (Below.refl _ _)).alloc (by exact hlt4) _)) (fun hHeld => ?_)
        clear hK
        (try simp only [Act.put, List.setIfInBounds_toArray, List.set_cons_zero, List.set_cons_succ])
        refine wpAnyH_ready (rs := [1]) (by kernel_rfl) (by simp) ?_
        refine AllReadyH.cons (o := { dst := some 48, op := Op.load 32 (Operand.tmp 47), type := 32, pos := "outright.go:291", after := #[{ on := 0, ground := Ground.data }], guard := none }) rfl (fun K hK => ?_) AllReadyH.nil
        go_simp
        refine hK.out _ _ (HK.out _ ((Below.drew (Below.refl _ _)).alloc (by exact hlt4) _)) (fun hHeld => ?_)
        clear hK
        (try simp only [Act.put, List.setIfInBounds_toArray, List.set_cons_zero, List.set_cons_succ])
        refine wpAnyH_ready (rs := [19]) (by kernel_rfl) (by simp) ?_
        refine AllReadyH.cons (o := { dst := some 66, op := Op.call { callee := Callee.builtin Builtin.append, args := #[Operand.tmp 48, Operand.tmp 65], argTypes := #[32, 32] }, type := 32, pos := "outright.go:291", after := #[{ on := 1, ground := Ground.data }, { on := 18, ground := Ground.data }], guard := none }) rfl (fun K hK => ?_) AllReadyH.nil
        (refine step_append_any _ rfl (.tmp 48) (.tmp 65) 32 rfl (g + 1) 5 i0 (.int .u8 0) 1 1 Try.underlying32 hi hz0 hz1 hz2 rfl (by decide) _ _ _ (by simp [Act.eval, Act.put]) (TD.out.own.alloc _) (wr.drew.heap.size + 1) _ 1 1 _ (by simp [Act.eval, Act.put]) (reads_new1 (u := u8v cl) _ _ rfl) (bv_oneCell [_]) (by rw [HTL.out]; unfold maxLen; omega) (by rw [HTL.out]; omega) (by simp; omega) ?_; intro v4 w4 hown4 hg4 _; obtain ⟨A4, c4, rfl, _, _, _⟩ := own_form hown4; have hx4 : Below (g + 1) wr.drew w4 := ((Below.refl _ _).alloc hlt2 _).grown hg4 (by simp; omega) (fun y hy => (TD.out.own.lt y hy).1); have p2 := (TD.out.kg.below hx4 (by omega)).cellv 2 (v := v) rfl; have q2 := (TD.out.kg.below hx4 (by omega)).frozen 2; have HX4 := Lib.hid hx4; have HO4 := Lib.hid hown4; have hxA : Below (w.heap.size + 1) wr w4 := (Below.refl _ _).drew.trans (hx4.mono (by omega)); have hxB : Below (w.heap.size + 1) wr (w4.setCell ⟨g, 2, none⟩ (.slice A4 ((trL l a b k).length + 1) c4)) := hxA.setCell (by simp; omega) _; clear hx4 hown4 hg4)
        refine hK.out _ _ (HK.out _ hxA) (fun hHeld => ?_)
        clear hK
        (try simp only [Act.put, List.setIfInBounds_toArray, List.set_cons_zero, List.set_cons_succ])
        refine wpAnyH_take (i := 20) (oi := { dst := some 67, op := Op.fieldAddr 34 (Operand.tmp 8) 2, type := 0, pos := "outright.go:291", after := #[{ on := 0, ground := Ground.phase }, { on := 1, ground := Ground.phase }, { on := 2, ground := Ground.phase }, { on := 3, ground := Ground.phase }, { on := 4, ground := Ground.phase }, { on := 5, ground := Ground.phase }, { on := 6, ground := Ground.phase }, { on := 7, ground := Ground.phase }, { on := 8, ground := Ground.phase }, { on := 9, ground := Ground.phase }, { on := 10, ground := Ground.phase }, { on := 11, ground := Ground.phase }, { on := 12, ground := Ground.phase }, { on := 13, ground := Ground.phase }, { on := 14, ground := Ground.phase }, { on := 15, ground := Ground.phase }, { on := 16, ground := Ground.phase }, { on := 17, ground := Ground.phase }, { on := 18, ground := Ground.phase }, { on := 19, ground := Ground.phase }], guard := none }) (v := ?_) rfl (by kernel_rfl) (by kernel_rfl) (by kernel_rfl) (fun _ _ _ h => h) (Or.inl ⟨by rfl, ?_⟩) (by assumption) ?_
        rotate_left
        · intro w hSw
          (try dsimp only at hSw)
          go_simp
          (try with_reducible rfl)
        simp only [Act.put, List.setIfInBounds_toArray, List.set_cons_zero, List.set_cons_succ]
        refine wpAnyH_ready (rs := [21]) (by kernel_rfl) (by simp) ?_
        refine AllReadyH.cons (o := { dst := none, op := Op.store 32 (Operand.tmp 67) (Operand.tmp 66), type := 0, pos := "outright.go:291", after := #[{ on := 20, ground := Ground.data }, { on := 19, ground := Ground.data }, { on := 19, ground := Ground.chain }, { on := 0, ground := Ground.phase }, { on := 1, ground := Ground.phase }, { on := 2, ground := Ground.phase }, { on := 3, ground := Ground.phase }, { on := 4, ground := Ground.phase }, { on := 5, ground := Ground.phase }, { on := 6, ground := Ground.phase }, { on := 7, ground := Ground.phase }, { on := 8, ground := Ground.phase }, { on := 9, ground := Ground.phase }, { on := 10, ground := Ground.phase }, { on := 11, ground := Ground.phase }, { on := 12, ground := Ground.phase }, { on := 13, ground := Ground.phase }, { on := 14, ground := Ground.phase }, { on := 15, ground := Ground.phase }, { on := 16, ground := Ground.phase }, { on := 17, ground := Ground.phase }, { on := 18, ground := Ground.phase }, { on := 19, ground := Ground.phase }], guard := none }) rfl (fun K hK => ?_) AllReadyH.nil
        go_simp
        refine hK.out _ _ (HK.out _ hxB) (fun hHeld => ?_)
        clear hK
        (try simp only [Act.put, List.setIfInBounds_toArray, List.set_cons_zero, List.set_cons_succ])
        refine wpAnyH_done (by kernel_rfl) ?_ _
        have HO5 : Hid (w4.ownsRow (g + 1) 5 1 (.slice A4 ((trL l a b k).length + 1) c4) ((trL l a b k).length + 1) (bv (trL l a b k) ++ [u8v cl])) := by assumption
        have HN := Lib.hid (TD.out.app (t' := trL l a b (k + 1)) HX4.out (by rw [trL_snoc, HC.out, bv_append, List.length_append]; exact HO5.out))
        go_wp2
        go_roundw
        case rel => exact ⟨k + 1, _, by omega, by go_num, HN⟩
        case measure => simp [intOf]; omega
    · have hkn : n = k := by omega
      subst hkn
      have how : wr.ownsRow (g + 1) 5 1 v n (bv (trL l a b n)) := by have := TR.out.own; rwa [trL_len] at this
      obtain ⟨A1, ca, rfl, _, _, _⟩ := own_form how
      rw [← HT.out] at TR
      clear how hlt hk TI
      have d0 := TR.out.kg.cellv 0 (v := .int .i64 b) rfl
      have d1 := TR.out.kg.cellv 1 (v := .int .i64 a) rfl
      have d2 := TR.out.kg.cellv 2 (v := .slice A1 n ca) rfl
      go_wp2_with fail
      refine (D1.out _ (TR.out.rf.more TR.out.bel.size)).mono ?_
      rintro e x ⟨rfl, hb⟩
      replace TR := Lib.hid (TR.out.next hb)
      clear hb c0 c1 c2 d0 d1 d2
      have c0 := TR.out.kf.cellv 0 (v := .int .i64 a) rfl
      have c1 := TR.out.kf.cellv 1 (v := .int .i64 b) rfl
      have c2 := TR.out.kf.cellv 2 (v := .slice A n c) rfl
      have d0 := TR.out.kg.cellv 0 (v := .int .i64 b) rfl
      have d1 := TR.out.kg.cellv 1 (v := .int .i64 a) rfl
      have d2 := TR.out.kg.cellv 2 (v := .slice A1 n ca) rfl
      go_wp2_with fail
      refine (D2.out _ _ _ (TR.out.row HTL.out)).mono ?_
      rintro e x ⟨rfl, hb⟩
      replace TR := Lib.hid (TR.out.next hb)
      clear hb c0 c1 c2 d0 d1 d2
      have c0 := TR.out.kf.cellv 0 (v := .int .i64 a) rfl
      have c1 := TR.out.kf.cellv 1 (v := .int .i64 b) rfl
      have c2 := TR.out.kf.cellv 2 (v := .slice A n c) rfl
      have d0 := TR.out.kg.cellv 0 (v := .int .i64 b) rfl
      have d1 := TR.out.kg.cellv 1 (v := .int .i64 a) rfl
      have d2 := TR.out.kg.cellv 2 (v := .slice A1 n ca) rfl
      go_wp2
      clear c0 c1 c2 d0 d1 d2
      go_loopw [14] (fun i wr => ∃ k : Nat, k ≤ n ∧ i = .int .i64 (k : Int) ∧ Hid (TW w wr a b A n c l g (.slice A1 n ca) t))
        (fun i _ => n - (intOf i).toNat)
      case atStart => exact ⟨0, Nat.zero_le _, rfl, TR⟩
      case round =>
        obtain ⟨k, hk, rfl, hTR⟩ := hrel
        clear TR
        have TR := hTR
        clear hTR
        have c0 := TR.out.kf.cellv 0 (v := .int .i64 a) rfl
        have c1 := TR.out.kf.cellv 1 (v := .int .i64 b) rfl
        have c2 := TR.out.kf.cellv 2 (v := .slice A n c) rfl
        have d0 := TR.out.kg.cellv 0 (v := .int .i64 b) rfl
        have d1 := TR.out.kg.cellv 1 (v := .int .i64 a) rfl
        have d2 := TR.out.kg.cellv 2 (v := .slice A1 n ca) rfl
        by_cases hlt : k < n
        · obtain ⟨x, y, r, s0, u, v, c9, m, o, hL, hP, hO, hO2, hu, hv, hDm, hEm, hx8, hy8, hu8, hv8⟩ := TP.out k hlt
          have L2 := Lib.hid (fun W => L1.out (k : Int) W)
          rw [hL] at L2
          have P2 := Lib.hid (fun W => P1.out (y : Int) (x : Int) W)
          rw [hP] at P2
          have O3 := Lib.hid (fun W hr => O1.out (k : Int) W hr)
          rw [hO] at O3
          have O4 := Lib.hid (fun A1 c1 W hr => O2.out A1 c1 (r : Int) W hr)
          rw [hO2] at O4
          obtain ⟨i1, hi1⟩ : ∃ i1, i1 = u + x := ⟨_, rfl⟩
          obtain ⟨i2, hi2⟩ : ∃ i2, i2 = v + y := ⟨_, rfl⟩
          rw [← hi1] at hDm
          rw [← hi2] at hEm
          have ix1 := fun W => index_str' D m (i1 : Int) i1 rfl hDm W
          have ix2 := fun W => index_str' E m (i2 : Int) i2 rfl hEm W
          have f1 : (u : Int) + (x : Int) = (i1 : Int) := by omega
          have f2 : (v : Int) + (y : Int) = (i2 : Int) := by omega
          have w1 : IntKind.i64.wrap (a + 1) = a + 1 := IntWalk.i64_in _ (by omega)
          have w2 : IntKind.i64.wrap (b + 1) = b + 1 := IntWalk.i64_in _ (by omega)
          have w3 : IntKind.i64.wrap (u : Int) = (u : Int) := IntWalk.i64_in _ (by omega)
          have w4 : IntKind.i64.wrap (v : Int) = (v : Int) := IntWalk.i64_in _ (by omega)
          have w5 : IntKind.i64.wrap (i1 : Int) = (i1 : Int) := IntWalk.i64_in _ (by omega)
          have w6 : IntKind.i64.wrap (i2 : Int) = (i2 : Int) := IntWalk.i64_in _ (by omega)
          have k0 : (0 : Int) ≤ (k : Int) := by omega
          have k1 : (k : Int) < (n : Int) := by omega
          clear hL hP hO hO2 hDm hEm hi1 hi2
          go_wp2_with fail
          refine (L2.out _).mono ?_
          rintro e x ⟨rfl, hb⟩
          replace TR := Lib.hid (TR.out.next hb)
          clear hb c0 c1 c2 d0 d1 d2
          have c0 := TR.out.kf.cellv 0 (v := .int .i64 a) rfl
          have c1 := TR.out.kf.cellv 1 (v := .int .i64 b) rfl
          have c2 := TR.out.kf.cellv 2 (v := .slice A n c) rfl
          have d0 := TR.out.kg.cellv 0 (v := .int .i64 b) rfl
          have d1 := TR.out.kg.cellv 1 (v := .int .i64 a) rfl
          have d2 := TR.out.kg.cellv 2 (v := .slice A1 n ca) rfl
          go_wp2_with fail
          refine (P2.out _).mono ?_
          rintro e x ⟨rfl, hb⟩
          replace TR := Lib.hid (TR.out.next hb)
          clear hb c0 c1 c2 d0 d1 d2
          have c0 := TR.out.kf.cellv 0 (v := .int .i64 a) rfl
          have c1 := TR.out.kf.cellv 1 (v := .int .i64 b) rfl
          have c2 := TR.out.kf.cellv 2 (v := .slice A n c) rfl
          have d0 := TR.out.kg.cellv 0 (v := .int .i64 b) rfl
          have d1 := TR.out.kg.cellv 1 (v := .int .i64 a) rfl
          have d2 := TR.out.kg.cellv 2 (v := .slice A1 n ca) rfl
          go_wp2_with fail
          refine (O3.out _ (TR.out.rf.more TR.out.bel.size)).mono ?_
          rintro e x ⟨rfl, hb⟩
          replace TR := Lib.hid (TR.out.next hb)
          clear hb c0 c1 c2 d0 d1 d2
          have c0 := TR.out.kf.cellv 0 (v := .int .i64 a) rfl
          have c1 := TR.out.kf.cellv 1 (v := .int .i64 b) rfl
          have c2 := TR.out.kf.cellv 2 (v := .slice A n c) rfl
          have d0 := TR.out.kg.cellv 0 (v := .int .i64 b) rfl
          have d1 := TR.out.kg.cellv 1 (v := .int .i64 a) rfl
          have d2 := TR.out.kg.cellv 2 (v := .slice A1 n ca) rfl
          go_wp2_with fail
          refine (O4.out _ _ _ (TR.out.row HTL.out)).mono ?_
          rintro e x ⟨rfl, hb⟩
          replace TR := Lib.hid (TR.out.next hb)
          clear hb c0 c1 c2 d0 d1 d2
          have c0 := TR.out.kf.cellv 0 (v := .int .i64 a) rfl
          have c1 := TR.out.kf.cellv 1 (v := .int .i64 b) rfl
          have c2 := TR.out.kf.cellv 2 (v := .slice A n c) rfl
          have d0 := TR.out.kg.cellv 0 (v := .int .i64 b) rfl
          have d1 := TR.out.kg.cellv 1 (v := .int .i64 a) rfl
          have d2 := TR.out.kg.cellv 2 (v := .slice A1 n ca) rfl
          go_wp2
          go_quiet ((go_at_call 26; exact Calls.quiet_of_same (is_same _ _)))
          go_wp2
          go_roundw
          case rel => exact ⟨k + 1, by omega, by go_num, Lib.hid (TR.out.next (below_drewN (Below.refl _ _) nq))⟩
          case measure => simp [intOf]; omega
        · have hkn : n = k := by omega
          subst hkn
          clear hlt hk TP D1 D2 O1 O2 L1 P1 hne1 hne2 hdb heb
          cases hp : onB a b p
          · have R1 := Lib.hid (fun W => RO.out p W)
            rw [hp] at R1
            clear hp
            go_wp2_with fail
            refine (R1.out _).mono ?_
            rintro e x ⟨rfl, rfl⟩
            go_wp2
            go_ret
            exact ⟨rfl, TR.out.bel⟩
          · have R1 := Lib.hid (fun W => RO.out p W)
            have R2 := Lib.hid (fun W => RO.out q W)
            rw [hp] at R1
            cases hq : onB a b q
            · rw [hq] at R2
              clear hp hq
              go_wp2_with fail
              refine (R1.out _).mono ?_
              rintro e x ⟨rfl, rfl⟩
              go_wp2_with fail
              refine (R2.out _).mono ?_
              rintro e x ⟨rfl, rfl⟩
              go_wp2
              go_ret
              exact ⟨rfl, TR.out.bel⟩
            · rw [hq] at R2
              obtain ⟨e1, e2⟩ := tr_dist hp hq
              obtain ⟨X, Y, M, Z, t1, t2, t3, t4, t5, t6, t7, ⟨tX0, tX8⟩, ⟨tY0, tY8⟩, ⟨tM0, tM8⟩, ⟨tZ0, tZ8⟩⟩ := tr_arg hp
              obtain ⟨X', Y', M', Z', s1, s2, s3, s4, s5, s6, s7, ⟨sX0, sX8⟩, ⟨sY0, sY8⟩, ⟨sM0, sM8⟩, ⟨sZ0, sZ8⟩⟩ := tr_arg hq
              rw [t7, s7] at e2
              have E1 := Lib.hid (fun W => DS.out p q W)
              have E2 := Lib.hid (fun W => DS2.out Z Z' W)
              rw [e1] at E1
              rw [e2] at E2
              have v1 : IntKind.i64.wrap M = M := IntWalk.i64_in _ (by omega)
              have v2 : IntKind.i64.wrap Y = Y := IntWalk.i64_in _ (by omega)
              have v3 : IntKind.i64.wrap Z = Z := IntWalk.i64_in _ (by omega)
              have v4 : IntKind.i64.wrap M' = M' := IntWalk.i64_in _ (by omega)
              have v5 : IntKind.i64.wrap Y' = Y' := IntWalk.i64_in _ (by omega)
              have v6 : IntKind.i64.wrap Z' = Z' := IntWalk.i64_in _ (by omega)
              clear hp hq e1 e2 t7 s7
              go_wp2_with fail
              refine (R1.out _).mono ?_
              rintro e x ⟨rfl, rfl⟩
              go_wp2_with fail
              refine (R2.out _).mono ?_
              rintro e x ⟨rfl, rfl⟩
              go_wp2_with fail
              refine (E1.out _).mono ?_
              rintro e x ⟨rfl, hb⟩
              replace TR := Lib.hid (TR.out.next hb)
              clear hb c0 c1 c2 d0 d1 d2
              have c0 := TR.out.kf.cellv 0 (v := .int .i64 a) rfl
              have c1 := TR.out.kf.cellv 1 (v := .int .i64 b) rfl
              have c2 := TR.out.kf.cellv 2 (v := .slice A n c) rfl
              have d0 := TR.out.kg.cellv 0 (v := .int .i64 b) rfl
              have d1 := TR.out.kg.cellv 1 (v := .int .i64 a) rfl
              have d2 := TR.out.kg.cellv 2 (v := .slice A1 n ca) rfl
              have KS : Hid (∀ W', Below x.heap.size x W' → W'.cell? ⟨w.heap.size, 0, none⟩ = some (.int .i64 a) ∧ W'.cell? ⟨w.heap.size, 1, none⟩ = some (.int .i64 b) ∧ W'.cell? ⟨g, 0, none⟩ = some (.int .i64 b) ∧ W'.cell? ⟨g, 1, none⟩ = some (.int .i64 a)) :=
                Lib.hid (fun W' hb => ⟨(hb.cell (p := ⟨w.heap.size, 0, none⟩) (by exact TR.out.kf.lt)).trans c0, (hb.cell (p := ⟨w.heap.size, 1, none⟩) (by exact TR.out.kf.lt)).trans c1, (hb.cell (p := ⟨g, 0, none⟩) (by exact TR.out.kg.lt)).trans d0, (hb.cell (p := ⟨g, 1, none⟩) (by exact TR.out.kg.lt)).trans d1⟩)
              go_upto_region 25 with fail
              go_region_held3 (fun w' => w'.cell? ⟨w.heap.size, 0, none⟩ = some (.int .i64 a) ∧ w'.cell? ⟨w.heap.size, 1, none⟩ = some (.int .i64 b) ∧ w'.cell? ⟨g, 0, none⟩ = some (.int .i64 b) ∧ w'.cell? ⟨g, 1, none⟩ = some (.int .i64 a))
                (first
                  | exact KS.out _ (Below.drew (Below.refl _ _))
                  | exact KS.out _ hbD)
                (first
                  | (go_at_call 25
                     refine (E2.out _).mono ?_
                     rintro e w9 ⟨rfl, hb9⟩
                     have hbD : Below x.heap.size x w9 := (Below.drew (Below.refl _ _)).trans hb9))
              replace TR := Lib.hid (TR.out.next hbD)
              clear t1 t2 t3 t4 t5 t6 s1 s2 s3 s4 s5 s6 v1 v2 v3 v4 v5 v6 c0 c1 c2 d0 d1 d2 KS
              go_wp2_with fail
              refine (is_true _ _).mono ?_
              rintro e x9 ⟨rfl, rfl⟩
              go_wp2
              go_ret
              exact ⟨rfl, TR.out.bel⟩

theorem floorTransposed_walk (a b : Int) (A : Option Addr) (n c : Nat) (l : List UInt8) (p q : Int) (w : World) (hr : Reads w w.heap.size 1 A n (bv l)) (hnc : n ≤ c) (hc : c ≤ 140737488351232) (_ : (Lit.int .i64 p).wf = true) (_ : (Lit.int .i64 q).wf = true) :
    Calls Try.prog 14 #[.agg #[.int .i64 a, .int .i64 b, .slice A n c], .int .i64 p, .int .i64 q] w fun e w' => e = .returned (.bool true) ∧ Below w.heap.size w w' := by
  cases hv : floorB a b l
  · exact tr_bad a b A n c l p q w hr (by omega) hv
  · exact tr_ok a b A n c l p q w hr (by omega) hv
end Go.Proofs.Ythehkapaipfoaaa.floorTransposed
