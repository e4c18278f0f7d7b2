/-
  HEX AND BACK: the plain Hex and ParseHex are inverse.
-/
import Derived.Test.YtinoekcancgamaaDoorTexts
namespace Go.Proofs.YtinoekcancgamaaDoor
set_option linter.unusedVariables false
set_option linter.unusedSimpArgs false

theorem dv_dig : ∀ k : Fin 16, dvB (dig k.val) = true ∧ dvN (dig k.val) = k.val := by decide
theorem dig_dv_all : ∀ k : Fin 256, dvB (UInt8.ofNat k.val) = true → dig (dvN (UInt8.ofNat k.val)) = UInt8.ofNat k.val := by decide +kernel
theorem dig_dv {a : UInt8} (h : dvB a = true) : dig (dvN a) = a := by
  have := dig_dv_all ⟨a.toNat, a.toNat_lt⟩
  simp only [UInt8.ofNat_toNat] at this
  exact this h
theorem hexOf_at (l : List UInt8) (k : Nat) (b : UInt8) (h : l[k]? = some b) : (hexOf l)[2 * k]? = some (dig (b.toNat / 16)) ∧ (hexOf l)[2 * k + 1]? = some (dig (b.toNat % 16)) := by
  induction l generalizing k with
  | nil => simp at h
  | cons a l ih =>
    have hc : hexOf (a :: l) = dig (a.toNat / 16) :: dig (a.toNat % 16) :: hexOf l := rfl
    rw [hc]
    cases k with
    | zero =>
      simp at h
      subst h
      exact ⟨rfl, rfl⟩
    | succ k =>
      have := ih k (by simpa using h)
      rw [show 2 * (k + 1) = 2 * k + 1 + 1 from by omega]
      simpa using this
theorem nib_join (b : UInt8) : UInt8.ofNat (16 * (b.toNat / 16) + b.toNat % 16) = b := by
  rw [show 16 * (b.toNat / 16) + b.toNat % 16 = b.toNat from by omega]
  simp
theorem unhex_hex (l : List UInt8) (k : Nat) (hk : k ≤ l.length) : unhexN (hexOf l) k = some (l.take k) := by
  induction k with
  | zero => simp [unhexN]
  | succ k ih =>
    obtain ⟨b, hb⟩ : ∃ b, l[k]? = some b := ⟨_, List.getElem?_eq_getElem (by omega)⟩
    obtain ⟨h1, h2⟩ := hexOf_at l k b hb
    have hlt := b.toNat_lt
    have d1 := dv_dig ⟨b.toNat / 16, by omega⟩
    have d2 := dv_dig ⟨b.toNat % 16, by omega⟩
    simp only at d1 d2
    rw [unhexN_step (ih (by omega)) h1 h2, d1.1, d2.1, d1.2, d2.2, nib_join, List.take_add_one, hb]
    rfl
/-- Hex, then ParseHex. -/
theorem parse_hex (l : List UInt8) (h : l.length ≤ 8192) : parseS (hexOf l) = (l, 0) := by
  unfold parseS
  have hl := hexOf_length l
  rw [if_neg (by omega), if_pos (by omega), show (hexOf l).length / 2 = l.length from by omega, unhex_hex l _ (Nat.le_refl _), List.take_length]
theorem hex_unhex (s : List UInt8) (k : Nat) (l : List UInt8) (hk : 2 * k ≤ s.length) (h : unhexN s k = some l) : hexOf l = s.take (2 * k) := by
  induction k generalizing l with
  | zero => simp [unhexN] at h; subst h; rfl
  | succ k ih =>
    cases hu : unhexN s k with
    | none =>
      rw [unhexN_mono hu (Nat.le_succ k)] at h
      cases h
    | some l' =>
      obtain ⟨a, ha⟩ : ∃ a, s[2 * k]? = some a := ⟨_, List.getElem?_eq_getElem (by omega)⟩
      obtain ⟨b, hb⟩ : ∃ b, s[2 * k + 1]? = some b := ⟨_, List.getElem?_eq_getElem (by omega)⟩
      rw [unhexN_step hu ha hb] at h
      by_cases hd : (dvB a && dvB b) = true
      · rw [if_pos hd] at h
        injection h with h
        subst h
        obtain ⟨da, db⟩ := Bool.and_eq_true_iff.1 hd
        have l1 := dvN_lt a
        have l2 := dvN_lt b
        have ht : (UInt8.ofNat (16 * dvN a + dvN b)).toNat = 16 * dvN a + dvN b := by simp; omega
        rw [hexOf_snoc, ih l' (by omega) hu, ht, show (16 * dvN a + dvN b) / 16 = dvN a from by omega, show (16 * dvN a + dvN b) % 16 = dvN b from by omega, dig_dv da, dig_dv db]
        rw [show 2 * (k + 1) = 2 * k + 1 + 1 from by omega, List.take_add_one, List.take_add_one, ha, hb]
        simp
      · rw [if_neg hd] at h
        cases h
/-- ParseHex, then Hex. -/
theorem hex_parse (s l : List UInt8) (h : parseS s = (l, 0)) : hexOf l = s ∧ l.length ≤ 8192 := by
  unfold parseS at h
  by_cases h1 : 16384 < s.length
  · rw [if_pos h1] at h
    cases h
  · rw [if_neg h1] at h
    by_cases h2 : s.length % 2 = 0
    · rw [if_pos h2] at h
      cases hu : unhexN s (s.length / 2) with
      | none => rw [hu] at h; cases h
      | some l' =>
        rw [hu] at h
        injection h with h _
        subst h
        have := hex_unhex s _ _ (by omega) hu
        rw [show 2 * (s.length / 2) = s.length from by omega, List.take_length] at this
        exact ⟨this, by have := unhexN_len hu; omega⟩
    · rw [if_neg h2] at h
      cases h
/-- What ParseHex may answer. -/
theorem parse_codes (s : List UInt8) : (parseS s).2 = 0 ∨ (parseS s).2 = 4 ∨ (parseS s).2 = 11 := by
  unfold parseS
  split
  · exact .inr (.inl rfl)
  · split
    · split
      · exact .inl rfl
      · exact .inr (.inr rfl)
    · exact .inr (.inr rfl)
end Go.Proofs.YtinoekcancgamaaDoor
