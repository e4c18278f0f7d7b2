/-
  FGDIST: the reference's Distance: sets of places that grow.
-/
import Derived.Test.YthehkapaipfoaaaFgRef
import Derived.Test.YthehkapaipfoaaaArr
namespace Go.Proofs.Ythehkapaipfoaaa
set_option linter.unusedVariables false
set_option linter.unusedSimpArgs false
set_option maxRecDepth 100000
open Go.RowKit

@[irreducible] def arrB (f : Nat → Bool) : Array Value := ((List.range 64).map fun i => Value.bool (f i)).toArray
theorem arrB_size (f : Nat → Bool) : (arrB f).size = 64 := by unfold arrB; simp
theorem arrB_at (f : Nat → Bool) {i : Nat} (hi : i < 64) : (arrB f)[i]? = some (.bool (f i)) := by unfold arrB; simp [hi]
theorem arrB_one (f : Nat → Bool) : (arrB f).all (·.oneCell') = true := by
  unfold arrB
  rw [Array.all_eq_true_iff_forall_mem]
  intro x hx
  simp at hx
  obtain ⟨i, _, rfl⟩ := hx
  rfl
theorem arrB_set (f : Nat → Bool) (i : Nat) : (arrB f).setIfInBounds i (.bool true) = arrB (fun j => (j == i) || f j) := by
  unfold arrB
  apply Array.ext_getElem?
  intro k
  rw [Array.getElem?_setIfInBounds]
  by_cases hk : k < 64
  · by_cases hik : i = k
    · subst hik; simp [hk]
    · have : (k == i) = false := by simp; omega
      simp [hk, hik, this]
  · by_cases hik : i = k
    · subst hik; simp [hk]
    · simp [hk, hik]
theorem allocF : ∀ w : World, (Instr.alloc 109 true (.tuple #[])).run Try.prog w = .ok (.pointer (some ⟨w.heap.size, 0, none⟩)) (w.alloc (.cells (arrB (fun _ => false)) 109)) := fun _ => by unfold arrB; kernel_rfl
theorem infoF (f : Nat → Bool) : (Try.prog.info? 109).map (·.size) = some (arrB f).size := by rw [arrB_size]; kernel_rfl

/-- the places within n steps. -/
def inD (a b p : Int) (n i : Nat) : Bool := decide ((i : Int) < a * b ∧ distI a p (i : Int) ≤ (n : Int))
/-- what holds of the growing set. -/
structure Good (a b p : Int) (n i d : Nat) (f : Nat → Bool) : Prop where
  le : ∀ j, f j = true → (j : Int) < a * b ∧ distI a p (j : Int) ≤ (n : Int) + 1
  old : ∀ j, inD a b p n j = true → f j = true
  rows : ∀ i', i' < i → inD a b p n i' = true → ∀ d' : Nat, d' < 4 → inStep a b (i' : Int) (d' : Int) = true → f (toP a (i' : Int) (d' : Int)).toNat = true
  dirs : inD a b p n i = true → ∀ d' : Nat, d' < d → inStep a b (i : Int) (d' : Int) = true → f (toP a (i : Int) (d' : Int)).toNat = true
section
variable {a b p : Int} {n i d : Nat} {f : Nat → Bool}
theorem inD_iff {n i : Nat} : inD a b p n i = true ↔ (i : Int) < a * b ∧ distI a p (i : Int) ≤ (n : Int) := by unfold inD; simp
theorem good_start (n : Nat) : Good a b p n 0 0 (inD a b p n) :=
  ⟨fun j hj => by have := inD_iff.1 hj; exact ⟨this.1, by omega⟩, fun j hj => hj, fun i' hi => absurd hi (by omega), fun _ d' hd => absurd hd (by omega)⟩
theorem Good.next (h : Good a b p n i 4 f) : Good a b p n (i + 1) 0 f := by
  refine ⟨h.le, h.old, fun i' hi hin d' hd hs => ?_, fun _ d' hd => absurd hd (by omega)⟩
  rcases Nat.lt_or_ge i' i with h' | h'
  · exact h.rows i' h' hin d' hd hs
  · obtain rfl : i' = i := by omega
    exact h.dirs hin d' hd hs
theorem Good.skip (h : Good a b p n i 0 f) (hi : inD a b p n i = false) : Good a b p n (i + 1) 0 f := by
  refine ⟨h.le, h.old, fun i' hi' hin d' hd hs => ?_, fun _ d' hd => absurd hd (by omega)⟩
  rcases Nat.lt_or_ge i' i with h' | h'
  · exact h.rows i' h' hin d' hd hs
  · obtain rfl : i' = i := by omega
    rw [hi] at hin; cases hin
theorem Good.stay (h : Good a b p n i d f) (hs : inStep a b (i : Int) (d : Int) = false) : Good a b p n i (d + 1) f :=
  ⟨h.le, h.old, h.rows, fun hin d' hd hs' => by
    rcases Nat.lt_or_ge d' d with h' | h'
    · exact h.dirs hin d' h' hs'
    · obtain rfl : d' = d := by omega
      rw [hs] at hs'; cases hs'⟩
theorem Good.put (h : Good a b p n i d f) (hp : onB a b p = true) (hd : d < 4) (hin : inD a b p n i = true) (hs : inStep a b (i : Int) (d : Int) = true) :
    Good a b p n i (d + 1) (fun j => (j == (toP a (i : Int) (d : Int)).toNat) || f j) := by
  obtain ⟨⟨hw, hh⟩, hp'⟩ := (onB_iff _ _ _).1 hp
  have hi := inD_iff.1 hin
  have hoi : onB a b (i : Int) = true := (onB_iff _ _ _).2 ⟨⟨hw, hh⟩, by omega, hi.1⟩
  have hto := ((onB_iff _ _ _).1 (toP_on hoi hs).1).2
  refine ⟨fun j hj => ?_, fun j hj => by simp [h.old j hj], fun i' hi' hin' d' hd' hs' => by simp [h.rows i' hi' hin' d' hd' hs'], fun _ d' hd' hs' => ?_⟩
  · simp only [Bool.or_eq_true, beq_iff_eq] at hj
    rcases hj with rfl | hj
    · have e : (((toP a (i : Int) (d : Int)).toNat : Nat) : Int) = toP a (i : Int) (d : Int) := Int.toNat_of_nonneg hto.1
      rw [e]
      refine ⟨hto.2, ?_⟩
      have h1 := dist_tri a p (i : Int) (toP a (i : Int) (d : Int))
      have h2 := adj_step hoi (show 0 ≤ (d : Int) ∧ (d : Int) < 4 by omega) hs
      unfold adjS at h2
      rw [hoi, (toP_on hoi hs).1] at h2
      simp only [Bool.and_self, if_true, Prod.mk.injEq, decide_eq_true_eq, and_true] at h2
      omega
    · exact h.le j hj
  · rcases Nat.lt_or_ge d' d with h' | h'
    · simp [h.dirs hin d' h' hs']
    · obtain rfl : d' = d := by omega
      simp
theorem Good.last (h : Good a b p n i 0 f) (hp : onB a b p = true) (hi : (i : Int) = a * b) : f = inD a b p (n + 1) := by
  obtain ⟨⟨hw, hh⟩, hp'⟩ := (onB_iff _ _ _).1 hp
  funext j
  cases hj : inD a b p (n + 1) j
  · cases hf : f j
    · rfl
    · have := h.le j hf
      rw [← hj]
      exact (inD_iff.2 ⟨this.1, by omega⟩).symm
  · obtain ⟨h1, h2⟩ := inD_iff.1 hj
    by_cases hle : distI a p (j : Int) ≤ (n : Int)
    · exact h.old j (inD_iff.2 ⟨h1, hle⟩)
    · have hoj : onB a b (j : Int) = true := (onB_iff _ _ _).2 ⟨⟨hw, hh⟩, by omega, h1⟩
      have hd : distI a (j : Int) p ≠ 0 := by rw [dist_comm]; omega
      obtain ⟨d, ⟨d0, d4⟩, hin, he⟩ := dist_closer hw ⟨by omega, h1⟩ hp' hd
      have hin' : inStep a b (j : Int) d = true := hin
      have hon := (toP_on hoj hin').1
      have hto := ((onB_iff _ _ _).1 hon).2
      have he' : distI a (toP a (j : Int) d) p = distI a (j : Int) p - 1 := he
      obtain ⟨t, ht⟩ := Int.eq_ofNat_of_zero_le hto.1
      have hback := turn_back hoj ⟨d0, d4⟩ hin'
      rw [ht] at hback hon hto he'
      obtain ⟨e, hE⟩ := Int.eq_ofNat_of_zero_le (show 0 ≤ (d + 2) % 4 by omega)
      rw [hE] at hback
      have he4 : e < 4 := by omega
      have hstep : inStep a b (t : Int) (e : Int) = true ∧ toP a (t : Int) (e : Int) = (j : Int) := by
        rcases step_split a b (t : Int) (e : Int) with ⟨h5, _⟩ | ⟨h5, _⟩ | ⟨h5, _, _, h6⟩
        · rw [h5] at hback; simp at hback
        · rw [h5] at hback; simp at hback
        · rw [h5] at hback
          simp only [Prod.mk.injEq, and_true] at hback
          exact ⟨h6, hback⟩
      have := h.rows t (by omega) (inD_iff.2 ⟨hto.2, by rw [dist_comm]; rw [dist_comm a (j : Int)] at he'; omega⟩) e he4 hstep.1
      rw [hstep.2] at this
      simpa using this
end

theorem below_setRow {B g : Nat} {w w' : World} (h : Below B w w') (hg : B ≤ g) (cs : Array Value) : Below B w (w'.setRow g cs) := ⟨h.os, h.tape, h.output, by simpa using h.size, fun i hi => (setRow_other w' g i cs (by omega)).trans (h.block i hi)⟩
structure DW (w X : World) (a b p : Int) (n g2 i d : Nat) : Prop where
  k1 : Blk X w.heap.size 109 (arrB (inD a b p n))
  k2 : ∃ f, Good a b p n i d f ∧ Blk X g2 109 (arrB f)
  bel : Below w.heap.size w X
  ne : w.heap.size < g2

set_option maxHeartbeats 6400000 in
theorem refDist_ok (a b p q : Int) (P Q : Nat) (w : World) (hp : onB a b p = true) (hq : onB a b q = true) (hP : p = (P : Int)) (hQ : q = (Q : Int)) :
    Calls Try.prog 43 #[.int .i64 a, .int .i64 b, .int .i64 p, .int .i64 q] w fun e w' => e = .returned (.tuple #[.int .i64 (distI a p q), .int .i64 0]) ∧ Below w.heap.size w w' := by
  have O := Lib.hid (fun W => on_any a b p W)
  have O2 := Lib.hid (fun W => on_any a b q W)
  obtain ⟨⟨⟨a2, a8⟩, b2, b8⟩, p0, pl⟩ := (onB_iff _ _ _).1 hp
  obtain ⟨_, q0, ql⟩ := (onB_iff _ _ _).1 hq
  obtain ⟨s1, s2⟩ := size_bd ⟨a2, a8⟩ ⟨b2, b8⟩
  have dnn := dist_nonneg a p q
  have dle := dist_le ⟨a2, a8⟩ ⟨b2, b8⟩ ⟨p0, pl⟩ ⟨q0, ql⟩
  obtain ⟨D, hD⟩ := Int.eq_ofNat_of_zero_le dnn
  rw [hp] at O
  rw [hq] at O2
  obtain ⟨N, hN⟩ := Int.eq_ofNat_of_zero_le (show 0 ≤ a * b by omega)
  have HN := Lib.hid hN
  have n64 : N ≤ 64 := by omega
  have hpp := distI a p p
  have HP := Lib.hid hp
  have M := Lib.hid (fun (i d : Nat) (hi : i < N) (hd : d < 4) W => move_any a b (i : Int) (d : Int) W ((onB_iff _ _ _).2 ⟨⟨⟨a2, a8⟩, b2, b8⟩, by omega, by omega⟩) (by omega) (by omega))
  have HTO : Hid (∀ i d : Nat, i < N → d < 4 → inStep a b (i : Int) (d : Int) = true → ∃ z : Nat, moveS a b (i : Int) (d : Int) = (z : Int) ∧ z < 64 ∧ z = (toP a (i : Int) (d : Int)).toNat) := Lib.hid (fun i d hi hd hs => by
    have hoi : onB a b (i : Int) = true := (onB_iff _ _ _).2 ⟨⟨⟨a2, a8⟩, b2, b8⟩, by omega, by omega⟩
    have hto := ((onB_iff _ _ _).1 (toP_on hoi hs).1).2
    refine ⟨(toP a (i : Int) (d : Int)).toNat, ?_, by omega, rfl⟩
    unfold moveS
    rw [hs, if_pos rfl]; omega)
  have HDQ : Hid (∀ n : Nat, inD a b p n Q = decide (D ≤ n)) := Lib.hid (fun n => by
    unfold inD
    rw [← hQ, hD]
    by_cases h : D ≤ n
    · rw [decide_eq_true h, decide_eq_true ⟨ql, by omega⟩]
    · rw [decide_eq_false h, decide_eq_false (by omega)])
  have HD0 : Hid ((arrB (fun _ => false)).setIfInBounds P (.bool true) = arrB (inD a b p 0)) := Lib.hid (by
    rw [arrB_set]
    congr 1
    funext j
    have hz := dist_nonneg a p (j : Int)
    by_cases hj : (j : Int) < a * b
    · have := dist_zero (h := b) ⟨a2, a8⟩ ⟨p0, pl⟩ ⟨show (0 : Int) ≤ (j : Int) by omega, hj⟩
      by_cases he : j = P
      · subst he
        have h0 := this.2 (by omega)
        rw [show inD a b p 0 j = true from inD_iff.2 ⟨hj, by omega⟩]; simp
      · have h0 : distI a p (j : Int) ≠ 0 := fun h => he (by have := this.1 h; omega)
        rw [show inD a b p 0 j = false from decide_eq_false (by omega)]; simp [he]
    · rw [show inD a b p 0 j = false from decide_eq_false (by omega)]; simp; omega)
  rw [hD]
  have HDD := Lib.hid hD
  have P64 : P < 64 := by omega
  have Q64 : Q < 64 := by omega
  have hz := allocF
  have k0 := Blk.new w 109 (arrB (fun _ => false))
  have f0 := k0.frozen P
  have cp := k0.cellv P (arrB_at _ P64)
  have KS : Hid (Blk (w.alloc (.cells (arrB (inD a b p 0)) 109)) w.heap.size 109 (arrB (inD a b p 0))) := Lib.hid (Blk.new w _ _)
  have BS := Lib.hid ((Below.refl w.heap.size w).alloc (Nat.le_refl _) (.cells (arrB (inD a b p 0)) 109))
  have hD14 : D ≤ 14 := by omega
  clear k0 hD dnn hpp hp hq s1 s2
  subst hP hQ
  clear p0 q0
  have p0 : (0 : Int) ≤ (P : Int) := by omega
  have p1 : (P : Int) < 64 := by omega
  have q0 : (0 : Int) ≤ (Q : Int) := by omega
  have q1 : (Q : Int) < 64 := by omega
  go_enter Try.func43, Try.ntmps43
  go_wp2_with fail
  refine (O.out _).mono ?_
  rintro e x ⟨rfl, rfl⟩
  go_wp2_with fail
  refine (O2.out _).mono ?_
  rintro e x ⟨rfl, rfl⟩
  go_wp2_with (with_reducible refine wpList_alloc_named rfl 109 rfl (arrB (fun _ => false)) hz ?_)
  rw [HD0.out]
  generalize World.alloc _ _ = X0 at KS BS ⊢
  clear f0 cp hz hN
  have AF := Lib.hid allocF
  go_loopw [11] (fun nn wr => ∃ n : Nat, n ≤ D ∧ nn = .int .i64 (n : Int) ∧ Hid (Blk wr w.heap.size 109 (arrB (inD a b (P : Int) n))) ∧ Hid (Below w.heap.size w wr)) (fun nn _ => D - (intOf nn).toNat)
  case atStart => exact ⟨0, Nat.zero_le _, rfl, KS, BS⟩
  case round =>
    obtain ⟨n, hn, rfl, hK, hB⟩ := hrel
    clear KS BS
    have cq := hK.out.cellv Q (arrB_at _ Q64)
    rw [HDQ.out n] at cq
    have n14 : n ≤ 14 := by omega
    by_cases hd : D ≤ n
    · obtain rfl : n = D := by omega
      rw [decide_eq_true hd] at cq
      clear hd hn
      go_wp2
      go_ret2
      exact ⟨rfl, hB.out⟩
    · rw [decide_eq_false hd] at cq
      have hbw := hB.out.size
      have DWW : Hid (DW w ((wr.alloc (.cells (arrB (fun _ => false)) 109)).setRow wr.heap.size (arrB (inD a b (P : Int) n))) a b (P : Int) n wr.heap.size 0 0) :=
        Lib.hid ⟨(hK.out.alloc _).rowFar (by have := hK.out.lt; omega) _, ⟨_, good_start n, (Blk.new wr _ _).row _⟩, below_setRow (hB.out.alloc hbw _) hbw _, hK.out.lt⟩
      have HBN := Lib.hid (Blk.new wr 109 (arrB (fun _ => false)))
      have HNLT : Hid (n < D) := Lib.hid (by omega)
      clear hd hbw
      go_wp2_with (first
        | (refine wpList_load_row rfl 109 (.tmp 10) rfl w.heap.size rfl 109 (arrB (inD a b (P : Int) n)) (0, 0) _ hK.out Try.underlying109 rfl (infoF _) ?_)
        | (with_reducible refine wpList_alloc_named rfl 109 rfl (arrB (fun _ => false)) AF.out ?_)
        | (refine wpList_store_row rfl 109 (.tmp 12) (.tmp 33) rfl wr.heap.size (arrB (inD a b (P : Int) n)) (by simp [Act.eval, Act.put]) (by simp [Act.eval, Act.put]) 109 (arrB (fun _ => false)) HBN.out (infoF _) (by rw [arrB_size, arrB_size]) (arrB_one _) ?_))
      generalize World.setRow _ _ _ = X1 at DWW ⊢
      generalize wr.heap.size = g2 at DWW ⊢
      clear hK hB HBN cq
      go_loopw [13] (fun i wr2 => ∃ ii : Nat, ii ≤ N ∧ i = .int .i64 (ii : Int) ∧ Hid (DW w wr2 a b (P : Int) n g2 ii 0)) (fun i _ => N - (intOf i).toNat)
      case atStart => exact ⟨0, Nat.zero_le _, rfl, DWW⟩
      case round =>
        obtain ⟨ii, hii, rfl, hDW⟩ := hrel
        clear DWW
        have DWW := hDW
        clear hDW
        have hab := HN.out
        have i0 : (0 : Int) ≤ (ii : Int) := by omega
        have s0 : 0 ≤ a * b := by omega
        have s9 : a * b ≤ 64 := by omega
        by_cases hlt : ii < N
        · have l1 : decide ((ii : Int) < a * b) = true := decide_eq_true (by omega)
          have i64 : ii < 64 := by omega
          have i1 : (ii : Int) < 64 := by omega
          clear hab hii
          go_wp2
          go_loopw [14] (fun d wr3 => ∃ dd : Nat, dd ≤ 4 ∧ d = .int .i64 (dd : Int) ∧ Hid (inD a b (P : Int) n ii = true ∨ dd = 0) ∧ Hid (DW w wr3 a b (P : Int) n g2 ii dd)) (fun d _ => 4 - (intOf d).toNat)
          case atStart => exact ⟨0, by omega, rfl, Lib.hid (.inr rfl), DWW⟩
          case round =>
            obtain ⟨dd, hdd, rfl, hor, hDW⟩ := hrel
            clear DWW
            have DWW := hDW
            clear hDW
            have ci := DWW.out.k1.cellv ii (arrB_at _ i64)
            cases hin : inD a b (P : Int) n ii
            · rw [hin] at ci
              obtain rfl : dd = 0 := by
                rcases hor.out with h | h
                · rw [hin] at h; cases h
                · exact h
              have HDN : Hid (DW w wr a b (P : Int) n g2 (ii + 1) 0) := Lib.hid (by
                obtain ⟨f, hG, hF⟩ := DWW.out.k2
                exact ⟨DWW.out.k1, ⟨f, hG.skip hin, hF⟩, DWW.out.bel, DWW.out.ne⟩)
              clear hin DWW hor
              go_wp2
              go_roundw
              case rel => exact ⟨ii + 1, by omega, by go_num, HDN⟩
              case measure => simp [intOf]; omega
            · rw [hin] at ci
              have HIN := Lib.hid hin
              clear hin hor
              by_cases hd4 : dd < 4
              · have M1 := Lib.hid (fun W => M.out ii dd hlt hd4 W)
                cases hs : inStep a b (ii : Int) (dd : Int)
                · rw [show moveS a b (ii : Int) (dd : Int) = -1 from by unfold moveS; rw [hs]; rfl] at M1
                  have HDN : Hid (DW w wr a b (P : Int) n g2 ii (dd + 1)) := Lib.hid (by
                    obtain ⟨f, hG, hF⟩ := DWW.out.k2
                    exact ⟨DWW.out.k1, ⟨f, hG.stay hs, hF⟩, DWW.out.bel, DWW.out.ne⟩)
                  clear hs DWW
                  go_wp2_with fail
                  refine (M1.out _).mono ?_
                  rintro e x ⟨rfl, rfl⟩
                  go_wp2
                  go_roundw
                  case rel => exact ⟨dd + 1, by omega, by go_num, Lib.hid (by simp), HDN⟩
                  case measure => simp [intOf]; omega
                · obtain ⟨z, hz1, hz2, hz3⟩ := HTO.out ii dd hlt hd4 hs
                  rw [hz1] at M1
                  obtain ⟨f, hG, hF⟩ := DWW.out.k2
                  have fz := hF.frozen z
                  have cz := hF.cellv z (arrB_at _ hz2)
                  have HDN : Hid (DW w (wr.setCell ⟨g2, z, none⟩ (.bool true)) a b (P : Int) n g2 ii (dd + 1)) := Lib.hid ⟨DWW.out.k1.far (by have := DWW.out.ne; simp; omega) _, ⟨_, hG.put HP.out hd4 HIN.out hs, by
                      rw [← hz3, ← arrB_set]; exact hF.set_ z _⟩, DWW.out.bel.setCell (by have := DWW.out.ne; simp; omega) _, DWW.out.ne⟩
                  have z0 : (0 : Int) ≤ (z : Int) := by omega
                  have z1 : (z : Int) < 64 := by omega
                  clear hs DWW hz1 hz3 hG hF
                  go_wp2_with fail
                  refine (M1.out _).mono ?_
                  rintro e x ⟨rfl, rfl⟩
                  go_wp2_with fail
                  refine (M1.out _).mono ?_
                  rintro e x ⟨rfl, rfl⟩
                  go_wp2
                  go_roundw
                  case rel => exact ⟨dd + 1, by omega, by go_num, Lib.hid (by simp), HDN⟩
                  case measure => simp [intOf]; omega
              · obtain rfl : dd = 4 := by omega
                have HDN : Hid (DW w wr a b (P : Int) n g2 (ii + 1) 0) := Lib.hid (by
                  obtain ⟨f, hG, hF⟩ := DWW.out.k2
                  exact ⟨DWW.out.k1, ⟨f, hG.next, hF⟩, DWW.out.bel, DWW.out.ne⟩)
                clear DWW
                go_wp2
                go_roundw
                case rel => exact ⟨ii + 1, by omega, by go_num, HDN⟩
                case measure => simp [intOf]; omega
        · have hiN : ii = N := by omega
          have l1 : decide ((ii : Int) < a * b) = false := decide_eq_false (by omega)
          obtain ⟨f, hG, hF⟩ := DWW.out.k2
          have hf := hG.last HP.out (by omega)
          rw [hf] at hF
          have HF := Lib.hid hF
          have HK1 := Lib.hid DWW.out.k1
          have HKN := Lib.hid (DWW.out.k1.row (arrB (inD a b (P : Int) (n + 1))))
          have HBN := Lib.hid (below_setRow DWW.out.bel (Nat.le_refl _) (arrB (inD a b (P : Int) (n + 1))))
          clear DWW hf hF hG hab hiN hlt hii
          go_wp2_with (first
            | (refine wpList_load_row rfl 109 (.tmp 12) rfl g2 rfl 109 (arrB (inD a b (P : Int) (n + 1))) (0, 0) _ HF.out Try.underlying109 rfl (infoF _) ?_)
            | (refine wpList_store_row rfl 109 (.tmp 10) (.tmp 62) rfl w.heap.size (arrB (inD a b (P : Int) (n + 1))) (by simp [Act.eval, Act.put]) (by simp [Act.eval, Act.put]) 109 (arrB (inD a b (P : Int) n)) HK1.out (infoF _) (by rw [arrB_size, arrB_size]) (arrB_one _) ?_))
          go_roundw
          case rel => exact ⟨n + 1, HNLT.out, by go_num, HKN, HBN⟩
          case measure => have := HNLT.out; simp [intOf]; omega

theorem refDist_any (a b p q : Int) (w : World) : Calls Try.prog 43 #[.int .i64 a, .int .i64 b, .int .i64 p, .int .i64 q] w fun e w' => e = .returned (.tuple #[.int .i64 (distS a b p q).1, .int .i64 (distS a b p q).2]) ∧ Below w.heap.size w w' := by
  have O := Lib.hid (fun W => on_any a b p W)
  have O2 := Lib.hid (fun W => on_any a b q W)
  cases h : onB a b p
  · rw [show distS a b p q = (0, 2) from by unfold distS; rw [h]; rfl]
    rw [h] at O
    clear h O2
    go_enter Try.func43, Try.ntmps43
    go_wp2_with fail
    refine (O.out _).mono ?_
    rintro e x ⟨rfl, rfl⟩
    go_wp2
    go_ret2
    exact ⟨rfl, Below.refl _ _⟩
  · cases h2 : onB a b q
    · rw [show distS a b p q = (0, 2) from by unfold distS; rw [h, h2]; rfl]
      rw [h] at O
      rw [h2] at O2
      clear h h2
      go_enter Try.func43, Try.ntmps43
      go_wp2_with fail
      refine (O.out _).mono ?_
      rintro e x ⟨rfl, rfl⟩
      go_wp2_with fail
      refine (O2.out _).mono ?_
      rintro e x ⟨rfl, rfl⟩
      go_wp2
      go_ret2
      exact ⟨rfl, Below.refl _ _⟩
    · rw [show distS a b p q = (distI a p q, 0) from by unfold distS; rw [h, h2]; rfl]
      obtain ⟨P, hP⟩ := Int.eq_ofNat_of_zero_le ((onB_iff _ _ _).1 h).2.1
      obtain ⟨Q, hQ⟩ := Int.eq_ofNat_of_zero_le ((onB_iff _ _ _).1 h2).2.1
      exact refDist_ok a b p q P Q w h h2 hP hQ
end Go.Proofs.Ythehkapaipfoaaa
