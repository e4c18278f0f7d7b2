/-
  MIX: the contract of Compress's closure.
-/
import Derived.Test.YtpoppfmlphkakaaDoorRot
import Derived.Deep.QuietTactic
import Derived.BigQuiet
namespace Go.Proofs.YtpoppfmlphkakaaDoor
set_option linter.unusedVariables false
set_option linter.unusedSimpArgs false
set_option maxRecDepth 100000
open Go.RowKit

/-- All eight cells of a block, stored one after the other. -/
theorem set8 {w : World} {g t : Nat} {a0 a1 a2 a3 a4 a5 a6 a7 : Value} (b0 b1 b2 b3 b4 b5 b6 b7 : Value) (H : Blk w g t #[a0, a1, a2, a3, a4, a5, a6, a7]) :
    Blk ((((((((w.setCell ⟨g, 0, none⟩ b0).setCell ⟨g, 1, none⟩ b1).setCell ⟨g, 2, none⟩ b2).setCell ⟨g, 3, none⟩ b3).setCell ⟨g, 4, none⟩ b4).setCell ⟨g, 5, none⟩ b5).setCell ⟨g, 6, none⟩ b6).setCell ⟨g, 7, none⟩ b7) g t #[b0, b1, b2, b3, b4, b5, b6, b7] ∧
    w.grownBy ((((((((w.setCell ⟨g, 0, none⟩ b0).setCell ⟨g, 1, none⟩ b1).setCell ⟨g, 2, none⟩ b2).setCell ⟨g, 3, none⟩ b3).setCell ⟨g, 4, none⟩ b4).setCell ⟨g, 5, none⟩ b5).setCell ⟨g, 6, none⟩ b6).setCell ⟨g, 7, none⟩ b7) (some g) := by
  have e0 : (#[a0, a1, a2, a3, a4, a5, a6, a7] : Array Value).setIfInBounds 0 b0 = #[b0, a1, a2, a3, a4, a5, a6, a7] := by simp
  have e1 : (#[b0, a1, a2, a3, a4, a5, a6, a7] : Array Value).setIfInBounds 1 b1 = #[b0, b1, a2, a3, a4, a5, a6, a7] := by simp
  have e2 : (#[b0, b1, a2, a3, a4, a5, a6, a7] : Array Value).setIfInBounds 2 b2 = #[b0, b1, b2, a3, a4, a5, a6, a7] := by simp
  have e3 : (#[b0, b1, b2, a3, a4, a5, a6, a7] : Array Value).setIfInBounds 3 b3 = #[b0, b1, b2, b3, a4, a5, a6, a7] := by simp
  have e4 : (#[b0, b1, b2, b3, a4, a5, a6, a7] : Array Value).setIfInBounds 4 b4 = #[b0, b1, b2, b3, b4, a5, a6, a7] := by simp
  have e5 : (#[b0, b1, b2, b3, b4, a5, a6, a7] : Array Value).setIfInBounds 5 b5 = #[b0, b1, b2, b3, b4, b5, a6, a7] := by simp
  have e6 : (#[b0, b1, b2, b3, b4, b5, a6, a7] : Array Value).setIfInBounds 6 b6 = #[b0, b1, b2, b3, b4, b5, b6, a7] := by simp
  have e7 : (#[b0, b1, b2, b3, b4, b5, b6, a7] : Array Value).setIfInBounds 7 b7 = #[b0, b1, b2, b3, b4, b5, b6, b7] := by simp
  have one : ∀ {w0 w : World} {i : Nat} {u : Value} {cs cs' : Array Value}, Blk w g t cs ∧ w0.grownBy w (some g) → cs.setIfInBounds i u = cs' → Blk (w.setCell ⟨g, i, none⟩ u) g t cs' ∧ w0.grownBy (w.setCell ⟨g, i, none⟩ u) (some g) :=
    fun h e => ⟨e ▸ h.1.set_ _ _, only_setCell h.2 (.inl rfl) _⟩
  have s0 := one (⟨H, World.grownBy.refl w _⟩ : _ ∧ w.grownBy w (some g)) e0
  have s1 := one s0 e1
  have s2 := one s1 e2
  have s3 := one s2 e3
  have s4 := one s3 e4
  have s5 := one s4 e5
  have s6 := one s5 e6
  exact one s6 e7

set_option maxHeartbeats 800000 in
set_option maxRecDepth 100000 in
theorem mix_any (blk t : Nat) (s : St) (k x : Nat) (w : World) (hs : s.ok) (hB : Blk w blk t s.vals) :
    Calls Tryd.prog 47 #[.int .u32 (k : Int), .int .u32 (x : Int), .pointer (some ⟨blk, 0, none⟩)] w fun e w' => e = .returned (.tuple #[]) ∧ Blk w' blk t (s.step k x).vals ∧ w.grownBy w' (some blk) := by
  obtain ⟨a, b, c, d, e, f, g, r⟩ := s
  obtain ⟨ba, bb, bc, bd, be, bf, bg, bh⟩ := hs
  simp only at ba bb bc bd be bf bg bh
  have ha := hB.cellv 0 (v := .int .u32 (a : Int)) rfl
  have hb := hB.cellv 1 (v := .int .u32 (b : Int)) rfl
  have hc := hB.cellv 2 (v := .int .u32 (c : Int)) rfl
  have hd := hB.cellv 3 (v := .int .u32 (d : Int)) rfl
  have he := hB.cellv 4 (v := .int .u32 (e : Int)) rfl
  have hf := hB.cellv 5 (v := .int .u32 (f : Int)) rfl
  have hg := hB.cellv 6 (v := .int .u32 (g : Int)) rfl
  have hh := hB.cellv 7 (v := .int .u32 (r : Int)) rfl
  have z0 := hB.frozen 0
  have z1 := hB.frozen 1
  have z2 := hB.frozen 2
  have z3 := hB.frozen 3
  have z4 := hB.frozen 4
  have z5 := hB.frozen 5
  have z6 := hB.frozen 6
  have z7 := hB.frozen 7
  have m1 := big1_bits be
  have m2 := ch_bits be bf bg
  have m3 := big0_bits ba
  have m4 := maj_bits ba bb bc
  have HB := Lib.hid hB; clear hB
  go_enter Tryd.func47, Tryd.ntmps47
  go_wp2_with fail
  go_quiet (fail)
  go_wp2_with fail
  go_quiet (fail)
  go_wp2_with fail
  refine (rotate_any e 6 _ be (by omega) (by omega)).mono ?_
  rintro e w1 ⟨rfl, rfl⟩
  go_wp2_with fail
  refine (rotate_any e 11 _ be (by omega) (by omega)).mono ?_
  rintro e w1 ⟨rfl, rfl⟩
  go_wp2_with fail
  refine (rotate_any e 25 _ be (by omega) (by omega)).mono ?_
  rintro e w1 ⟨rfl, rfl⟩
  go_wp2_with fail
  refine (rotate_any a 2 _ ba (by omega) (by omega)).mono ?_
  rintro e w1 ⟨rfl, rfl⟩
  go_wp2_with fail
  refine (rotate_any a 13 _ ba (by omega) (by omega)).mono ?_
  rintro e w1 ⟨rfl, rfl⟩
  go_wp2_with fail
  refine (rotate_any a 22 _ ba (by omega) (by omega)).mono ?_
  rintro e w1 ⟨rfl, rfl⟩
  go_wp2
  go_end0
  have f0 : ((r : Int) + (big1 e : Int) + (ch e f g : Int) + (k : Int) + (x : Int) + ((big0 a : Int) + (maj a b c : Int))) % 4294967296 = (((r + big1 e + ch e f g + k + x + (big0 a + maj a b c)) % 4294967296 : Nat) : Int) := by omega
  have f4 : ((d : Int) + ((r : Int) + (big1 e : Int) + (ch e f g : Int) + (k : Int) + (x : Int))) % 4294967296 = (((d + (r + big1 e + ch e f g + k + x)) % 4294967296 : Nat) : Int) := by omega
  rw [f0, f4]
  have R := fun n => set8 (u32v ((r + big1 e + ch e f g + k + x + (big0 a + maj a b c)) % 4294967296)) (u32v a) (u32v b) (u32v c) (u32v ((d + (r + big1 e + ch e f g + k + x)) % 4294967296)) (u32v e) (u32v f) (u32v g) (HB.out.drewN n)
  exact ⟨rfl, (R _).1, only_trans (only_drewN (World.grownBy.refl w _) _) (R _).2⟩
end Go.Proofs.YtpoppfmlphkakaaDoor
