/-
  TEXTMATH: drawing and parsing are inverse, in plain Lean.
-/
import Derived.Test.YthehkapaipfoaaaParse2
namespace Go.Proofs.Ythehkapaipfoaaa
set_option linter.unusedVariables false
set_option linter.unusedSimpArgs false
set_option maxRecDepth 100000

theorem all_bytes {p : UInt8 → Bool} (h : (List.range 256).all (fun n => p (UInt8.ofNat n)) = true) (c : UInt8) : p c = true := by
  have := List.all_eq_true.1 h c.toNat (List.mem_range.2 c.toNat_lt)
  simpa using this
theorem cellC_mark {c : UInt8} (h : cellB c = true) : cellC (markB c) = some c ∧ (markB c).toNat ≠ 10 := by
  have := all_bytes (p := fun c => !cellB c || (cellC (markB c) == some c && (markB c).toNat != 10)) (by decide +kernel) c
  rw [h] at this
  simpa using this
theorem mark_cellC {c x : UInt8} (h : cellC c = some x) : markB x = c := by
  have := all_bytes (p := fun c => match cellC c with | some x => markB x == c | none => true) (by decide +kernel) c
  rw [h] at this
  simpa using this
theorem readC_append : ∀ (x y : List UInt8) (st : PSt), readC (x ++ y) st = (match readC x st with | some st' => readC y st' | none => none)
  | [], y, st => rfl
  | c :: x, y, st => by
    show (match stepC st c with | some st' => readC (x ++ y) st' | none => none) = _
    show _ = (match (match stepC st c with | some st' => readC x st' | none => none) with | some st' => readC y st' | none => none)
    cases h : stepC st c
    · rfl
    · exact readC_append x y _
theorem readC_one (c : UInt8) (st : PSt) : readC [c] st = stepC st c := by
  show (match stepC st c with | some st' => readC [] st' | none => none) = _
  cases stepC st c <;> rfl
theorem stepC_cell {st : PSt} {c : UInt8} (h : cellB c = true) : stepC st (markB c) = some ⟨st.W, st.H, st.len + 1, st.cells ++ [c]⟩ := by
  obtain ⟨h1, h2⟩ := cellC_mark h
  unfold stepC
  rw [if_neg h2, h1]
theorem stepC_lf (st : PSt) (h : st.H = 0 ∨ st.len = st.W) : stepC st 10 = some ⟨st.len, st.H + 1, 0, st.cells⟩ := by
  unfold stepC
  rw [if_pos (by decide), if_neg (by omega)]

theorem mod_next {k a : Nat} (ha : 1 ≤ a) (hm : k % a ≠ a - 1) : (k + 1) % a = k % a + 1 ∧ (k + 1) / a = k / a := by
  have hka : k % a < a := Nat.mod_lt _ (by omega)
  have h0 := Nat.div_add_mod k a
  have h : k + 1 = k % a + 1 + a * (k / a) := by omega
  constructor
  · rw [h, Nat.add_mul_mod_self_left, Nat.mod_eq_of_lt (by omega)]
  · rw [h, Nat.add_mul_div_left _ _ (by omega), Nat.div_eq_of_lt (by omega)]; omega
theorem mod_wrap {k a : Nat} (ha : 1 ≤ a) (hm : k % a = a - 1) : (k + 1) % a = 0 ∧ (k + 1) / a = k / a + 1 := by
  have h0 := Nat.div_add_mod k a
  have h : k + 1 = a * (k / a + 1) := by rw [Nat.mul_add]; omega
  constructor
  · rw [h, Nat.mul_mod_right]
  · rw [h, Nat.mul_div_cancel_left _ (by omega)]

/-- the state behind the first k cells' text. -/
def stAt (l : List UInt8) (a k : Nat) : PSt := ⟨if k < a then 0 else a, k / a, k % a, l.take k⟩
theorem read_draw {l : List UInt8} {a : Nat} (ha : 1 ≤ a) (hall : l.all cellB = true) : ∀ k, k ≤ l.length → readC (drawTo l a k) p0 = some (stAt l a k) := by
  intro k
  induction k with
  | zero =>
    intro _
    show some p0 = _
    unfold stAt p0
    rw [if_pos (by omega)]
    simp
  | succ k ih =>
    intro hk
    have hk' : k < l.length := by omega
    have hc : l[k]? = some l[k] := List.getElem?_eq_getElem hk'
    have hb := List.all_eq_true.1 hall l[k] (List.getElem_mem hk')
    have ht : l.take k ++ [l[k]] = l.take (k + 1) := by rw [List.take_add_one, hc]; rfl
    have hstep : readC (drawTo l a k ++ [markB l[k]]) p0 = some ⟨if k < a then 0 else a, k / a, k % a + 1, l.take (k + 1)⟩ := by
      rw [readC_append, ih (by omega)]
      show readC [markB l[k]] _ = _
      rw [readC_one, stepC_cell hb]
      simp only [stAt, ht]
    have hka : k % a < a := Nat.mod_lt _ (by omega)
    by_cases hm : (k : Int) % (a : Int) = (a : Int) - 1
    · have hm' : k % a = a - 1 := by omega
      obtain ⟨e2, e1⟩ := mod_wrap ha hm'
      rw [drawTo_lf hc hm, readC_append, hstep]
      show readC [10] _ = _
      rw [readC_one, stepC_lf]
      · have e3 : ¬ (k + 1 < a) := by
          intro h
          rw [Nat.mod_eq_of_lt h] at e2
          omega
        unfold stAt
        rw [if_neg e3, e1, e2]
        simp only [Option.some.injEq, PSt.mk.injEq, and_true, true_and]
        omega
      · by_cases h : k < a
        · left
          exact Nat.div_eq_of_lt h
        · right
          show k % a + 1 = if k < a then 0 else a
          rw [if_neg h]; omega
    · have hm' : k % a ≠ a - 1 := by omega
      obtain ⟨e2, e1⟩ := mod_next ha hm'
      rw [drawTo_no hc hm, hstep]
      unfold stAt
      rw [e1, e2]
      have : (if k < a then 0 else a) = if k + 1 < a then 0 else a := by
        by_cases h : k < a
        · have : k % a = k := Nat.mod_eq_of_lt h
          rw [if_pos h, if_pos (by omega)]
        · rw [if_neg h, if_neg (by omega)]
      rw [this]

theorem draw_len {l : List UInt8} {a : Nat} (ha : 1 ≤ a) : ∀ k, k ≤ l.length → (drawTo l a k).length = k + k / a := by
  intro k
  induction k with
  | zero => intro _; simp [drawTo]
  | succ k ih =>
    intro hk
    have hc : l[k]? = some l[k] := List.getElem?_eq_getElem (by omega)
    have := ih (by omega)
    by_cases hm : (k : Int) % (a : Int) = (a : Int) - 1
    · obtain ⟨e2, e1⟩ := mod_wrap ha (show k % a = a - 1 by omega)
      rw [drawTo_lf hc hm, e1]; simp; omega
    · obtain ⟨e2, e1⟩ := mod_next ha (show k % a ≠ a - 1 by have := Nat.mod_lt k (show 0 < a by omega); omega)
      rw [drawTo_no hc hm, e1]; simp; omega

/-- Parse of what Draw came to. -/
theorem parse_draw {l : List UInt8} {a b : Int} (h : floorB a b l = true) : parseF (drawTo l a l.length) = (a.toNat, b.toNat, l, 0) ∧ ((drawTo l a l.length).length : Int) = (a + 1) * b := by
  obtain ⟨⟨ha, hb⟩, hl, hall⟩ := floorB_yes h
  obtain ⟨x, rfl⟩ := Int.eq_ofNat_of_zero_le (show 0 ≤ a by omega)
  obtain ⟨y, rfl⟩ := Int.eq_ofNat_of_zero_le (show 0 ≤ b by omega)
  have hx : 1 ≤ x := by omega
  have hxy : l.length = x * y := by exact_mod_cast hl
  have hr := read_draw hx hall l.length (Nat.le_refl _)
  have hd : l.length / x = y := by rw [hxy, Nat.mul_div_cancel_left _ (by omega)]
  have hm : l.length % x = 0 := by rw [hxy, Nat.mul_mod_right]
  have hnl : ¬ (l.length < x) := by
    intro h'
    rw [Nat.div_eq_of_lt h'] at hd
    omega
  constructor
  · rw [parse_some hr]
    simp only [stAt, hm, hd, if_neg hnl, List.take_length]
    rw [if_neg (by omega), if_pos h]
    simp
  · rw [draw_len hx _ (Nat.le_refl _), hd, hxy]
    push_cast
    rw [Int.add_mul]; omega
end Go.Proofs.Ythehkapaipfoaaa
