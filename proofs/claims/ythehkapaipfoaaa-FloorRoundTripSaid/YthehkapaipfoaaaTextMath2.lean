/-
  TEXTMATH2: what was parsed is drawn as it was, in plain Lean.
-/
import Derived.Test.YthehkapaipfoaaaTextMath
namespace Go.Proofs.Ythehkapaipfoaaa
set_option linter.unusedVariables false
set_option linter.unusedSimpArgs false
set_option maxRecDepth 100000

theorem drawTo_app (l : List UInt8) (x : UInt8) (a : Int) : ∀ k, k ≤ l.length → drawTo (l ++ [x]) a k = drawTo l a k := by
  intro k
  induction k with
  | zero => intro _; rfl
  | succ k ih =>
    intro hk
    have e : (l ++ [x])[k]? = l[k]? := List.getElem?_append_left (by omega)
    conv => lhs; unfold drawTo
    conv => rhs; unfold drawTo
    rw [ih (by omega), e]
theorem draw_row {l : List UInt8} {w H : Nat} (hw : 1 ≤ w) : ∀ j, j ≤ w → H * w + j ≤ l.length → drawTo l w (H * w + j) = drawTo l w (H * w) ++ ((l.drop (H * w)).take j).map markB ++ (if j = w then [10] else []) := by
  intro j
  induction j with
  | zero =>
    intro _ _
    rw [if_neg (by omega)]
    simp
  | succ j ih =>
    intro hj hl
    have hk : H * w + j < l.length := by omega
    have hc : l[H * w + j]? = some l[H * w + j] := List.getElem?_eq_getElem hk
    have hm : (H * w + j) % w = j := by rw [Nat.add_comm, Nat.add_mul_mod_self_right, Nat.mod_eq_of_lt (by omega)]
    have ht : (l.drop (H * w)).take (j + 1) = (l.drop (H * w)).take j ++ [l[H * w + j]] := by
      rw [List.take_add_one, List.getElem?_drop, hc]; rfl
    have hih := ih (by omega) (by omega)
    rw [if_neg (by omega), List.append_nil] at hih
    rw [show H * w + (j + 1) = (H * w + j) + 1 from by omega, ht]
    by_cases he : j + 1 = w
    · rw [drawTo_lf hc (by have : ((H * w + j : Nat) : Int) % (w : Int) = ((H * w + j) % w : Nat) := by omega
                           rw [this, hm]; omega), hih, if_pos he]
      simp
    · rw [drawTo_no hc (by have : ((H * w + j : Nat) : Int) % (w : Int) = ((H * w + j) % w : Nat) := by omega
                           rw [this, hm]; omega), hih, if_neg he]
      simp

def TInv (t : List UInt8) (st : PSt) : Prop :=
  (0 < st.H ∧ st.W = 0) ∨ ((st.H = 0 → st.W = 0) ∧ st.cells.length = st.H * st.W + st.len ∧ t = drawTo st.cells st.W (st.H * st.W) ++ (st.cells.drop (st.H * st.W)).map markB)
theorem tinv_step {t : List UInt8} {st st' : PSt} {c : UInt8} (h : TInv t st) (hs : stepC st c = some st') : TInv (t ++ [c]) st' := by
  obtain ⟨W, H, len, cells⟩ := st
  unfold stepC at hs
  by_cases hc : c.toNat = 10
  · rw [if_pos hc] at hs
    have hc' : c = 10 := by
      apply UInt8.toNat_inj.1
      rw [hc]; rfl
    subst hc'
    by_cases hbad : 0 < H ∧ len ≠ W
    · rw [if_pos hbad] at hs; cases hs
    · rw [if_neg hbad] at hs
      injection hs with hs
      subst hs
      by_cases hl0 : len = 0
      · exact .inl ⟨by simp, hl0⟩
      · rcases h with ⟨h1, h2⟩ | ⟨h0, h1, h2⟩
        · exfalso
          simp only at h1 h2
          exact hbad ⟨h1, by omega⟩
        · simp only at h0 h1 h2
          have hW : H * len = H * W := by
            by_cases hH : H = 0
            · subst hH; simp
            · have : len = W := by
                by_cases h : len = W
                · exact h
                · exact absurd ⟨by omega, h⟩ hbad
              rw [this]
          have hd : drawTo cells (W : Int) (H * W) = drawTo cells (len : Int) (H * len) := by
            by_cases hH : H = 0
            · subst hH; simp [drawTo]
            · have : len = W := by
                by_cases h : len = W
                · exact h
                · exact absurd ⟨by omega, h⟩ hbad
              rw [this]
          refine .inr ⟨fun h => absurd h (by simp), ?_, ?_⟩
          · simp only
            rw [Nat.add_mul, hW]
            omega
          · simp only
            have hr := draw_row (l := cells) (w := len) (H := H) (by omega) len (Nat.le_refl _) (by rw [hW]; omega)
            rw [if_pos rfl] at hr
            rw [Nat.add_mul, Nat.one_mul, hr, h2, hd, ← hW]
            have e1 : (cells.drop (H * len)).take len = cells.drop (H * len) := List.take_of_length_le (by rw [List.length_drop, hW]; omega)
            have e2 : cells.drop (H * len + len) = [] := List.drop_eq_nil_of_le (by rw [hW]; omega)
            rw [e1, e2]
            simp
  · rw [if_neg hc] at hs
    cases hx : cellC c with
    | none => rw [hx] at hs; cases hs
    | some x =>
      rw [hx] at hs
      injection hs with hs
      subst hs
      rcases h with ⟨h1, h2⟩ | ⟨h0, h1, h2⟩
      · exact .inl ⟨h1, h2⟩
      · simp only at h0 h1 h2
        refine .inr ⟨h0, ?_, ?_⟩
        · simp only [List.length_append, List.length_cons, List.length_nil]; omega
        · simp only
          rw [drawTo_app _ _ _ _ (by omega), h2, List.drop_append_of_le_length (by omega), List.map_append]
          simp [mark_cellC hx]
theorem tinv_read : ∀ (y : List UInt8) (t : List UInt8) (st st' : PSt), TInv t st → readC y st = some st' → TInv (t ++ y) st'
  | [], t, st, st', h, hr => by
    have : st = st' := by injection hr
    subst this
    simpa using h
  | c :: y, t, st, st', h, hr => by
    have hr' : (match stepC st c with | some s => readC y s | none => none) = some st' := hr
    cases hs : stepC st c with
    | none => rw [hs] at hr'; cases hr'
    | some s =>
      rw [hs] at hr'
      have := tinv_read y (t ++ [c]) s st' (tinv_step h hs) hr'
      rw [List.append_assoc] at this
      exact this

/-- Draw of what Parse came to. -/
theorem draw_parse {s cells : List UInt8} {W H : Nat} (h : parseF s = (W, H, cells, 0)) : floorB W H cells = true ∧ drawTo cells W cells.length = s := by
  unfold parseF at h
  cases hr : readC s p0 with
  | none => rw [hr] at h; simp at h
  | some st =>
    rw [hr] at h
    simp only at h
    by_cases hl : 0 < st.len
    · rw [if_pos hl] at h; simp at h
    · rw [if_neg hl] at h
      by_cases hf : floorB st.W st.H st.cells = true
      · rw [if_pos hf] at h
        simp only [Prod.mk.injEq, and_true] at h
        obtain ⟨rfl, rfl, rfl⟩ := h
        refine ⟨hf, ?_⟩
        obtain ⟨⟨ha, hb⟩, hlen, hall⟩ := floorB_yes hf
        have hlen' : st.cells.length = st.W * st.H := by exact_mod_cast hlen
        have hi := tinv_read s [] p0 st (.inr ⟨fun _ => rfl, rfl, rfl⟩) hr
        rcases hi with ⟨_, h2⟩ | ⟨_, h1, h2⟩
        · omega
        · rw [List.nil_append] at h2
          rw [h2, hlen', Nat.mul_comm st.W]
          have : st.cells.drop (st.H * st.W) = [] := List.drop_eq_nil_of_le (by omega)
          rw [this]; simp
      · rw [if_neg hf] at h; simp at h
theorem parse_err {s : List UInt8} {W H : Nat} {cells : List UInt8} {e : Int} (h : parseF s = (W, H, cells, e)) : e = 0 ∨ e = 11 ∨ e = 50 := by
  unfold parseF at h
  split at h
  · simp at h; omega
  · split at h
    · simp at h; omega
    · split at h <;> simp at h <;> omega
end Go.Proofs.Ythehkapaipfoaaa
