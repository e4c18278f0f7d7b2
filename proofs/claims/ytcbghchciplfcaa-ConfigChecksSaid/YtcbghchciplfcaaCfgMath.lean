/-
  CFGMATH: who holds nothing.
-/
import Derived.Test.YtcbghchciplfcaaCfgHvt
import Derived.Test.YtcbghchciplfcaaPaMath
import Derived.Test.YtcbghchciplfcaaSlMath
namespace Go.Proofs.Ytcbghchciplfcaa
set_option linter.unusedVariables false
set_option linter.unusedSimpArgs false
open Go.RowKit

theorem getD_of {l : List UInt8} {k : Nat} {x : UInt8} (h : l[k]? = some x) : l.getD k 0 = x := by rw [List.getD_eq_getElem?_getD, h]; rfl
theorem ownsB_iff {cl sl : List UInt8} {t : Int} : ownsB cl sl t = true ↔ (∀ c ∈ cl, ownerS c ≠ t) ∧ ∀ x ∈ sl, ten x ≠ t := by
  unfold ownsB
  rw [Bool.and_eq_true, decide_eq_true_eq, List.isEmpty_iff]
  refine and_congr ⟨fun h c hc e => ?_, fun h => ?_⟩ ⟨fun h x hx e => ?_, fun h => ?_⟩
  · obtain ⟨k, hk⟩ := List.getElem?_of_mem hc
    have := ((places_spec cl t).2 (k : Int)).2 ⟨k, (List.getElem?_eq_some_iff.1 hk).1, rfl, by rw [getD_of hk]; exact e⟩
    rw [h] at this
    cases this
  · refine List.eq_nil_iff_forall_not_mem.2 fun x hx => ?_
    obtain ⟨j, hj, _, ho⟩ := ((places_spec cl t).2 x).1 hx
    rw [getD_of (List.getElem?_eq_getElem hj)] at ho
    exact h _ (List.getElem_mem hj) ho
  · obtain ⟨k, hk⟩ := List.getElem?_of_mem hx
    have hl := (List.getElem?_eq_some_iff.1 hk).1
    have h2 := wait_lt (l := sl) (tick := 0) (t := t) (k := k) (by rw [h]; exact hl)
    apply h2
    unfold atS
    rw [Nat.zero_add, Nat.mod_eq_of_lt hl, getD_of hk]
    exact e
  · rcases Nat.lt_or_ge (waitN sl 0 t) sl.length with h1 | h1
    · exfalso
      have h2 := wait_at (l := sl) (tick := 0) (t := t) h1
      unfold atS at h2
      rw [Nat.zero_add, Nat.mod_eq_of_lt h1, getD_of (List.getElem?_eq_getElem h1)] at h2
      exact h _ (List.getElem_mem h1) h2
    · have := wait_le (l := sl) (tick := 0) (t := t)
      omega
theorem belB_iff {ts : List Team} {v : UInt8} : belB ts v = true ↔ v.toNat = 0 ∨ v.toNat = 255 ∨ presB ts ((v.toNat : Int) - 1) = true := by
  unfold belB
  simp [or_assoc]
theorem heldTo_eq {cl sl : List UInt8} {ts : List Team} (hv : cl.all cellB = true) (hs : sl.all tenB = true) : heldTo cl sl ts 3 = (cl.all (belB ts) && sl.all (belB ts)) := by
  have h3 : heldTo cl sl ts 3 = true ↔ ∀ t : Nat, t < 3 → presB ts (t : Int) = true ∨ ownsB cl sl (t : Int) = true := by
    simp only [heldTo, Bool.true_and, Bool.and_eq_true, Bool.or_eq_true]
    constructor
    · rintro ⟨⟨h0, h1⟩, h2⟩ t ht
      rcases t with _ | _ | _ | t
      · exact h0
      · exact h1
      · exact h2
      · omega
    · intro h
      exact ⟨⟨h 0 (by omega), h 1 (by omega)⟩, h 2 (by omega)⟩
  rw [Bool.eq_iff_iff, h3, Bool.and_eq_true, List.all_eq_true, List.all_eq_true]
  rw [List.all_eq_true] at hv hs
  constructor
  · intro h
    refine ⟨fun c hc => belB_iff.2 ?_, fun c hc => belB_iff.2 ?_⟩
    · have h1 := hv c hc
      unfold cellB at h1
      simp at h1
      by_cases h0 : c.toNat = 0
      · exact .inl h0
      · by_cases h5 : c.toNat = 255
        · exact .inr (.inl h5)
        · rcases h (c.toNat - 1) (by omega) with hp | ho
          · rw [show ((c.toNat : Int) - 1) = ((c.toNat - 1 : Nat) : Int) by omega]; exact .inr (.inr hp)
          · exfalso
            have := (ownsB_iff.1 ho).1 c hc
            unfold ownerS at this
            rw [if_neg h0, if_neg h5] at this
            omega
    · have h1 := hs c hc
      unfold tenB at h1
      simp at h1
      by_cases h0 : c.toNat = 0
      · exact .inl h0
      · rcases h (c.toNat - 1) (by omega) with hp | ho
        · rw [show ((c.toNat : Int) - 1) = ((c.toNat - 1 : Nat) : Int) by omega]; exact .inr (.inr hp)
        · exfalso
          have := (ownsB_iff.1 ho).2 c hc
          unfold ten at this
          omega
  · rintro ⟨h1, h2⟩ t ht
    cases hp : presB ts (t : Int)
    · right
      refine ownsB_iff.2 ⟨fun c hc e => ?_, fun c hc e => ?_⟩
      · unfold ownerS at e
        split at e
        · omega
        · split at e
          · omega
          · rcases belB_iff.1 (h1 c hc) with h | h | h
            · omega
            · omega
            · rw [e, hp] at h; cases h
      · unfold ten at e
        rcases belB_iff.1 (h2 c hc) with h | h | h
        · omega
        · omega
        · rw [e, hp] at h; cases h
    · exact .inl rfl
theorem someTo_len {ts : List Team} : ∀ k, ts.length ≤ k → someTo ts k = someTo ts ts.length
  | 0, h => by rw [show ts.length = 0 by omega]
  | k + 1, h => by
    rcases Nat.lt_or_ge k ts.length with h1 | h1
    · rw [show ts.length = k + 1 by omega]
    · rw [← someTo_len k h1]
      show (_ || _) = _
      rw [presB_out (by omega), Bool.or_false]
/-- the teams of a config, as the reference has it. -/
def teamsR (cl sl : List UInt8) (ts : List Team) : Bool := btw 3 ts.length && okTo cl ts ts.length && cl.all (belB ts) && sl.all (belB ts) && someTo ts ts.length
theorem teams_eq {cl sl : List UInt8} {ts : List Team} (hv : cl.all cellB = true) (hs : sl.all tenB = true) : teamsR cl sl ts = validTeamsB cl sl ts := by
  unfold teamsR validTeamsB
  rw [heldTo_eq hv hs]
  cases hb : btw 3 (ts.length : Int)
  · rfl
  · rw [someTo_len 3 (by unfold btw at hb; simp at hb; omega)]
    simp only [Bool.and_assoc]
end Go.Proofs.Ytcbghchciplfcaa
