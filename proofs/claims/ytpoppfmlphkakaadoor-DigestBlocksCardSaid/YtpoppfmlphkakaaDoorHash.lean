/-
  HASH: the contracts of digest.padding and digest.Check.
-/
import Derived.Test.YtpoppfmlphkakaaDoorAbsorb
namespace Go.Proofs.YtpoppfmlphkakaaDoor
set_option linter.unusedVariables false
set_option linter.unusedSimpArgs false
set_option maxRecDepth 100000
open Go.RowKit

/-- What follows n bytes before the last block is compressed. -/
def padBytes (n : Nat) : List UInt8 := 128 :: (List.replicate ((119 - n % 64) % 64) 0 ++ be (8 * n) 8)
theorem padBytes_length (n : Nat) : (padBytes n).length = 9 + (119 - n % 64) % 64 := by simp [padBytes, be_length]; omega

theorem pad_cells (z : Nat) : (((madeCells #[Value.int .u8 0] ((1 + z) * 1)).toList).set 0 (.int .u8 128)) = bv (128 :: List.replicate z 0) := by
  rw [Nat.mul_one, toList_madeCells_one, show 1 + z = z + 1 from by omega, List.replicate_succ, List.set_cons_zero]
  simp [bv, u8v]

theorem made_at0 (z : Nat) : (madeCells (Value.int .u8 0).cells ((1 + z) * 1)).toList[0]? = some (.int .u8 0) := by
  show (madeCells #[Value.int .u8 0] ((1 + z) * 1)).toList[0]? = _
  rw [toList_madeCells_one, List.getElem?_replicate, if_pos (by omega)]

set_option maxHeartbeats 800000 in
theorem padding_any (n : Nat) (w : World) (hn : n ≤ 8192) :
    Calls Tryd.prog 56 #[.int .u64 (n : Int)] w fun e w' => ∃ v', e = .returned v' ∧ w'.ownsRow w.heap.size 5 1 v' (padBytes n).length (bv (padBytes n)) ∧ Below w.heap.size w w' := by
  obtain ⟨i0, hi, hz0, hz1, hz2⟩ := info_parts u8_info
  obtain ⟨z, hz⟩ : ∃ z, z = (119 - n % 64) % 64 := ⟨_, rfl⟩
  have hzl : z < 64 := by omega
  have hzi : ((119 : Int) - (n : Int) % 64) % 64 = (z : Int) := by omega
  have HZ := Lib.hid hz; clear hz
  go_enter Tryd.func56, Tryd.ntmps56
  go_wp2_with (at_make; refine wpList_make_full _ rfl _ _ 22 rfl w.heap.size 5 i0 (.int .u8 0) 1 Tryd.underlying22 hi hz0 hz1 _ _ _ _ (1 + z) rfl rfl (by omega) (by omega) (by rw [hz2]; omega) (by unfold maxLen; omega) (Nat.le_refl _) ?_; intro w1 hown1 hg1; have hc1 := (hown1.cellAt 0 (by omega)).trans (made_at0 z); have hf1 := hown1.frozenAt 0; have HO := Lib.hid hown1; have HG := Lib.hid hg1; clear hown1 hg1)
  have hst := (HO.out.stored 0 (.int .u8 128)).1
  have hpc : (madeCells (Value.int .u8 0).cells ((1 + z) * 1)).toList.set 0 (.int .u8 128) = bv (128 :: List.replicate z 0) := pad_cells z
  rw [hpc] at hst
  have hb1 : Below w.heap.size w w1 := (Below.refl _ _).grown HG.out (Nat.le_refl _) (fun _ h => by cases h)
  have hb2 : Below w.heap.size w (w1.setCell ⟨w.heap.size, 0, none⟩ (.int .u8 128)) := hb1.setCell (Nat.le_refl _) _
  have hl : (128 :: List.replicate z (0 : UInt8)).length = 1 + z := by simp; omega
  have hcall := appendUint_any w.heap.size (.slice (some ⟨w.heap.size, 0, none⟩) (1 + z) (1 + z)) (8 * n) 8 (128 :: List.replicate z 0) (w1.setCell ⟨w.heap.size, 0, none⟩ (.int .u8 128)) hb2.size (by omega) (by omega) (by rw [hl]; omega) (by rw [hl]; exact hst)
  have e8 : ((8 * n : Nat) : Int) = 8 * (n : Int) := by simp
  rw [e8] at hcall
  refine hcall.mono ?_
  rintro e w2 ⟨v2, rfl, hown2, hb3⟩
  go_wp2
  go_ret
  have hp : padBytes n = (128 :: List.replicate z 0) ++ be (8 * n) 8 := by unfold padBytes; rw [HZ.out]; rfl
  rw [hp]
  exact ⟨v2, rfl, hown2, hb2.trans hb3⟩

/-! ### hashes -/
/-- A hash as cells: the state, the tail, the length. -/
def hashV (s : St) (t : Value) (n : Nat) : Array Value := #[u32v s.a, u32v s.b, u32v s.c, u32v s.d, u32v s.e, u32v s.f, u32v s.g, u32v s.h, t, .int .u64 (n : Int)]
/-- The error of Check. -/
def checkE (m n : Nat) : Int := if 8192 < n ∨ m ≠ n % 64 then 8 else 0
theorem check_any (s : St) (A : Option Addr) (m c n : Nat) (w : World) (hm : m ≤ 140737488351232) (hn : n < 18446744073709551616) :
    Calls Tryd.prog 26 #[.agg (hashV s (.slice A m c) n)] w fun e w' => e = .returned (.int .i64 (checkE m n)) ∧ Below w.heap.size w w' := by
  have hb := Blk.new w 42 (hashV s (.slice A m c) n)
  have c8 := hb.cellv 8 (v := .slice A m c) rfl
  have c9 := hb.cellv 9 (v := .int .u64 (n : Int)) rfl
  have hbel : Below w.heap.size w (w.alloc (.cells (hashV s (.slice A m c) n) 42)) := (Below.refl _ _).alloc (Nat.le_refl _) _
  clear hb
  unfold checkE
  by_cases h1 : 8192 < n
  · rw [if_pos (.inl h1)]
    have h1' : (8192 : Int) < (n : Int) := by omega
    go_enter Tryd.func26, Tryd.ntmps26
    go_wp2
    go_ret
    exact ⟨rfl, hbel⟩
  · by_cases h2 : m = n % 64
    · rw [if_neg (by omega)]
      have hx : ((m : Int) != (n : Int) % 64) = false := by rw [bne_eq_false_iff_eq]; omega
      clear h2
      go_enter Tryd.func26, Tryd.ntmps26
      go_wp2
      go_ret
      exact ⟨rfl, hbel⟩
    · rw [if_pos (.inr h2)]
      have hx : ((m : Int) != (n : Int) % 64) = true := by rw [bne_iff_ne]; omega
      clear h2
      go_enter Tryd.func26, Tryd.ntmps26
      go_wp2
      go_ret
      exact ⟨rfl, hbel⟩
end Go.Proofs.YtpoppfmlphkakaaDoor
