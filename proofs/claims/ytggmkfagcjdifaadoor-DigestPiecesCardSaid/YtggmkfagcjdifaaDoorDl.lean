/- Facts of the program over abstract values. No condition. -/
import Derived.Test.YtggmkfagcjdifaaDoorDe
set_option linter.unusedSimpArgs false
set_option maxRecDepth 8000
namespace Go.Proofs.YtggmkfagcjdifaaDoor
set_option linter.unusedSimpArgs false
set_option linter.unusedVariables false
set_option linter.unnecessarySimpa false
set_option linter.unusedSectionVars false
open Go.Proofs.Tryd
open Go.Proofs.YtggmkfagcjdifaaDoor.Ai
set_option maxHeartbeats 4000000
set_option linter.unusedVariables false
open Go.Proofs.YtggmkfagcjdifaaDoor.Sh hiding mixed

theorem eqvV_map {α : Type} {f : α → AV} {kk : SK} (hf : ∀ x y, skE (f x) (f y) = true ↔ x = y) : ∀ (n k : Nat) (X Y : List α), X.length = k + n → Y.length = k + n →
    (eqvV ((List.range' k n).map fun i => (i, kk)) (X.map f) (Y.map f) = true ↔ X.drop k = Y.drop k)
  | 0, k, X, Y, hX, hY => by simp [eqvV, List.drop_of_length_le, hX, hY]
  | n + 1, k, X, Y, hX, hY => by
    have ih := eqvV_map (kk := kk) hf n (k + 1) X Y (by omega) (by omega)
    obtain ⟨x, hx⟩ := lt_get (xs := X) (k := k) (by omega)
    obtain ⟨y, hy⟩ := lt_get (xs := Y) (k := k) (by omega)
    rw [List.range'_succ, List.map_cons]
    simp only [eqvV, Bool.and_eq_true, ih, drop_at hx, drop_at hy, List.cons.injEq]
    have h1 : (X.map f).getD k .any = f x := by simp [List.getD_eq_getElem?_getD, hx]
    have h2 : (Y.map f).getD k .any = f y := by simp [List.getD_eq_getElem?_getD, hy]
    rw [h1, h2, hf]
theorem eqvC_map {α : Type} {f : α → AV} {kk : SK} (hf : ∀ x, skC kk (f x)) : ∀ (n k : Nat) (X Y : List α), X.length = k + n → Y.length = k + n →
    eqvC ((List.range' k n).map fun i => (i, kk)) (X.map f) (Y.map f)
  | 0, k, X, Y, hX, hY => trivial
  | n + 1, k, X, Y, hX, hY => by
    have ih := eqvC_map (kk := kk) hf n (k + 1) X Y (by omega) (by omega)
    obtain ⟨x, hx⟩ := lt_get (xs := X) (k := k) (by omega)
    obtain ⟨y, hy⟩ := lt_get (xs := Y) (k := k) (by omega)
    have h1 : (X.map f).getD k .any = f x := by simp [List.getD_eq_getElem?_getD, hx]
    have h2 : (Y.map f).getD k .any = f y := by simp [List.getD_eq_getElem?_getD, hy]
    rw [List.range'_succ, List.map_cons]
    exact ⟨⟨by simp; omega, by simp; omega, by rw [h1]; exact hf x, by rw [h2]; exact hf y⟩, ih⟩
theorem u8_inj (x y : UInt8) : skE (u8c x) (u8c y) = true ↔ x = y := by
  simp only [skE, beq_iff_eq]
  exact ⟨fun h => UInt8.toNat_inj.1 (by omega), fun h => by rw [h]⟩
abbrev L32 : List (Nat × SK) := (List.range' 0 32).map fun i => (i, SK.i .u8)
theorem L32_lit : L32 = [(0, SK.i .u8), (1, SK.i .u8), (2, SK.i .u8), (3, SK.i .u8), (4, SK.i .u8), (5, SK.i .u8), (6, SK.i .u8), (7, SK.i .u8), (8, SK.i .u8), (9, SK.i .u8), (10, SK.i .u8), (11, SK.i .u8), (12, SK.i .u8), (13, SK.i .u8), (14, SK.i .u8), (15, SK.i .u8), (16, SK.i .u8), (17, SK.i .u8), (18, SK.i .u8), (19, SK.i .u8), (20, SK.i .u8), (21, SK.i .u8), (22, SK.i .u8), (23, SK.i .u8), (24, SK.i .u8), (25, SK.i .u8), (26, SK.i .u8), (27, SK.i .u8), (28, SK.i .u8), (29, SK.i .u8), (30, SK.i .u8), (31, SK.i .u8)] := rfl
theorem eqa32 {X Y : List UInt8} (hX : X.length = 32) (hY : Y.length = 32) (g : Bool) : eqaV g L32 (.agg (X.map u8c)) (.agg (Y.map u8c)) = .bool (bif g then !decide (X = Y) else decide (X = Y)) := by
  have h := eqvV_map (f := u8c) (kk := .i .u8) u8_inj 32 0 X Y (by omega) (by omega)
  simp only [List.drop_zero] at h
  have : eqvV L32 (X.map u8c) (Y.map u8c) = decide (X = Y) := by rw [Bool.eq_iff_iff, h]; simp
  simp only [eqaV, this]
theorem eqc32 {X Y : List UInt8} (hX : X.length = 32) (hY : Y.length = 32) : eqaC L32 (.agg (X.map u8c)) (.agg (Y.map u8c)) = True :=
  eq_true (eqvC_map (f := u8c) (kk := .i .u8) (fun _ => rfl) 32 0 X Y (by omega) (by omega))
end Go.Proofs.YtggmkfagcjdifaaDoor
