/-
  DIGESTEXAMPLES: the walk.
-/
import Derived.Test.YtpoppfmlphkakaaDoorTagErr
import Derived.Lib.SlBytesConst
namespace Go.Proofs.YtpoppfmlphkakaaDoor.digestExamples
set_option linter.unusedVariables false
set_option linter.unusedSimpArgs false
set_option maxRecDepth 100000
open Go.RowKit

theorem sv0 : (hexS (shaB [])).1 = [101, 51, 98, 48, 99, 52, 52, 50, 57, 56, 102, 99, 49, 99, 49, 52, 57, 97, 102, 98, 102, 52, 99, 56, 57, 57, 54, 102, 98, 57, 50, 52, 50, 55, 97, 101, 52, 49, 101, 52, 54, 52, 57, 98, 57, 51, 52, 99, 97, 52, 57, 53, 57, 57, 49, 98, 55, 56, 53, 50, 98, 56, 53, 53] := by decide +kernel
theorem su0 (W : World) (hrc : HasRc W) (hfs : HasFs W) : Calls Tryd.prog 18 #[.string ⟨#[]⟩] W fun e w' => e = .returned (.string ⟨#[101, 51, 98, 48, 99, 52, 52, 50, 57, 56, 102, 99, 49, 99, 49, 52, 57, 97, 102, 98, 102, 52, 99, 56, 57, 57, 54, 102, 98, 57, 50, 52, 50, 55, 97, 101, 52, 49, 101, 52, 54, 52, 57, 98, 57, 51, 52, 99, 97, 52, 57, 53, 57, 57, 49, 98, 55, 56, 53, 50, 98, 56, 53, 53]⟩) ∧ Below W.heap.size W w' := by
  have := lawsum_ok [] W (by decide) hrc hfs
  rw [sv0] at this
  exact this
theorem sv1 : (hexS (shaB [97, 98, 99, 100, 98, 99, 100, 101, 99, 100, 101, 102, 100, 101, 102, 103, 101, 102, 103, 104, 102, 103, 104, 105, 103, 104, 105, 106, 104, 105, 106, 107, 105, 106, 107, 108, 106, 107, 108, 109, 107, 108, 109, 110, 108, 109, 110, 111, 109, 110, 111, 112, 110, 111, 112, 113])).1 = [50, 52, 56, 100, 54, 97, 54, 49, 100, 50, 48, 54, 51, 56, 98, 56, 101, 53, 99, 48, 50, 54, 57, 51, 48, 99, 51, 101, 54, 48, 51, 57, 97, 51, 51, 99, 101, 52, 53, 57, 54, 52, 102, 102, 50, 49, 54, 55, 102, 54, 101, 99, 101, 100, 100, 52, 49, 57, 100, 98, 48, 54, 99, 49] := by decide +kernel
theorem su1 (W : World) (hrc : HasRc W) (hfs : HasFs W) : Calls Tryd.prog 18 #[.string ⟨#[97, 98, 99, 100, 98, 99, 100, 101, 99, 100, 101, 102, 100, 101, 102, 103, 101, 102, 103, 104, 102, 103, 104, 105, 103, 104, 105, 106, 104, 105, 106, 107, 105, 106, 107, 108, 106, 107, 108, 109, 107, 108, 109, 110, 108, 109, 110, 111, 109, 110, 111, 112, 110, 111, 112, 113]⟩] W fun e w' => e = .returned (.string ⟨#[50, 52, 56, 100, 54, 97, 54, 49, 100, 50, 48, 54, 51, 56, 98, 56, 101, 53, 99, 48, 50, 54, 57, 51, 48, 99, 51, 101, 54, 48, 51, 57, 97, 51, 51, 99, 101, 52, 53, 57, 54, 52, 102, 102, 50, 49, 54, 55, 102, 54, 101, 99, 101, 100, 100, 52, 49, 57, 100, 98, 48, 54, 99, 49]⟩) ∧ Below W.heap.size W w' := by
  have := lawsum_ok [97, 98, 99, 100, 98, 99, 100, 101, 99, 100, 101, 102, 100, 101, 102, 103, 101, 102, 103, 104, 102, 103, 104, 105, 103, 104, 105, 106, 104, 105, 106, 107, 105, 106, 107, 108, 106, 107, 108, 109, 107, 108, 109, 110, 108, 109, 110, 111, 109, 110, 111, 112, 110, 111, 112, 113] W (by decide) hrc hfs
  rw [sv1] at this
  exact this
theorem sv2 : (hexS (shaB [97, 98, 99, 100, 101, 102, 103, 104, 98, 99, 100, 101, 102, 103, 104, 105, 99, 100, 101, 102, 103, 104, 105, 106, 100, 101, 102, 103, 104, 105, 106, 107, 101, 102, 103, 104, 105, 106, 107, 108, 102, 103, 104, 105, 106, 107, 108, 109, 103, 104, 105, 106, 107, 108, 109, 110, 104, 105, 106, 107, 108, 109, 110, 111, 105, 106, 107, 108, 109, 110, 111, 112, 106, 107, 108, 109, 110, 111, 112, 113, 107, 108, 109, 110, 111, 112, 113, 114, 108, 109, 110, 111, 112, 113, 114, 115, 109, 110, 111, 112, 113, 114, 115, 116, 110, 111, 112, 113, 114, 115, 116, 117])).1 = [99, 102, 53, 98, 49, 54, 97, 55, 55, 56, 97, 102, 56, 51, 56, 48, 48, 51, 54, 99, 101, 53, 57, 101, 55, 98, 48, 52, 57, 50, 51, 55, 48, 98, 50, 52, 57, 98, 49, 49, 101, 56, 102, 48, 55, 97, 53, 49, 97, 102, 97, 99, 52, 53, 48, 51, 55, 97, 102, 101, 101, 57, 100, 49] := by decide +kernel
theorem su2 (W : World) (hrc : HasRc W) (hfs : HasFs W) : Calls Tryd.prog 18 #[.string ⟨#[97, 98, 99, 100, 101, 102, 103, 104, 98, 99, 100, 101, 102, 103, 104, 105, 99, 100, 101, 102, 103, 104, 105, 106, 100, 101, 102, 103, 104, 105, 106, 107, 101, 102, 103, 104, 105, 106, 107, 108, 102, 103, 104, 105, 106, 107, 108, 109, 103, 104, 105, 106, 107, 108, 109, 110, 104, 105, 106, 107, 108, 109, 110, 111, 105, 106, 107, 108, 109, 110, 111, 112, 106, 107, 108, 109, 110, 111, 112, 113, 107, 108, 109, 110, 111, 112, 113, 114, 108, 109, 110, 111, 112, 113, 114, 115, 109, 110, 111, 112, 113, 114, 115, 116, 110, 111, 112, 113, 114, 115, 116, 117]⟩] W fun e w' => e = .returned (.string ⟨#[99, 102, 53, 98, 49, 54, 97, 55, 55, 56, 97, 102, 56, 51, 56, 48, 48, 51, 54, 99, 101, 53, 57, 101, 55, 98, 48, 52, 57, 50, 51, 55, 48, 98, 50, 52, 57, 98, 49, 49, 101, 56, 102, 48, 55, 97, 53, 49, 97, 102, 97, 99, 52, 53, 48, 51, 55, 97, 102, 101, 101, 57, 100, 49]⟩) ∧ Below W.heap.size W w' := by
  have := lawsum_ok [97, 98, 99, 100, 101, 102, 103, 104, 98, 99, 100, 101, 102, 103, 104, 105, 99, 100, 101, 102, 103, 104, 105, 106, 100, 101, 102, 103, 104, 105, 106, 107, 101, 102, 103, 104, 105, 106, 107, 108, 102, 103, 104, 105, 106, 107, 108, 109, 103, 104, 105, 106, 107, 108, 109, 110, 104, 105, 106, 107, 108, 109, 110, 111, 105, 106, 107, 108, 109, 110, 111, 112, 106, 107, 108, 109, 110, 111, 112, 113, 107, 108, 109, 110, 111, 112, 113, 114, 108, 109, 110, 111, 112, 113, 114, 115, 109, 110, 111, 112, 113, 114, 115, 116, 110, 111, 112, 113, 114, 115, 116, 117] W (by decide) hrc hfs
  rw [sv2] at this
  exact this
theorem tv0 : (hexS (tagB (List.replicate 20 11) [72, 105, 32, 84, 104, 101, 114, 101])).1 = [98, 48, 51, 52, 52, 99, 54, 49, 100, 56, 100, 98, 51, 56, 53, 51, 53, 99, 97, 56, 97, 102, 99, 101, 97, 102, 48, 98, 102, 49, 50, 98, 56, 56, 49, 100, 99, 50, 48, 48, 99, 57, 56, 51, 51, 100, 97, 55, 50, 54, 101, 57, 51, 55, 54, 99, 50, 101, 51, 50, 99, 102, 102, 55] := by decide +kernel
theorem tv1 : (hexS (tagB (List.replicate 20 170) (List.replicate 50 221))).1 = [55, 55, 51, 101, 97, 57, 49, 101, 51, 54, 56, 48, 48, 101, 52, 54, 56, 53, 52, 100, 98, 56, 101, 98, 100, 48, 57, 49, 56, 49, 97, 55, 50, 57, 53, 57, 48, 57, 56, 98, 51, 101, 102, 56, 99, 49, 50, 50, 100, 57, 54, 51, 53, 53, 49, 52, 99, 101, 100, 53, 54, 53, 102, 101] := by decide +kernel
theorem tg0 (K : ByteArray) (hK : K = ⟨(List.replicate 20 11).toArray⟩) (W : World) (hrc : HasRc W) (hfs : HasFs W) : Calls Tryd.prog 19 #[.string K, .string ⟨#[72, 105, 32, 84, 104, 101, 114, 101]⟩] W fun e w' => e = .returned (.string ⟨#[98, 48, 51, 52, 52, 99, 54, 49, 100, 56, 100, 98, 51, 56, 53, 51, 53, 99, 97, 56, 97, 102, 99, 101, 97, 102, 48, 98, 102, 49, 50, 98, 56, 56, 49, 100, 99, 50, 48, 48, 99, 57, 56, 51, 51, 100, 97, 55, 50, 54, 101, 57, 51, 55, 54, 99, 50, 101, 51, 50, 99, 102, 102, 55]⟩) ∧ Below W.heap.size W w' := by
  subst hK
  have := lawtag_ok (List.replicate 20 11) [72, 105, 32, 84, 104, 101, 114, 101] W (by decide) (by decide) (by decide) hrc hfs
  rw [tv0] at this
  exact this
theorem tg1 (K D : ByteArray) (hK : K = ⟨(List.replicate 20 170).toArray⟩) (hD : D = ⟨(List.replicate 50 221).toArray⟩) (W : World) (hrc : HasRc W) (hfs : HasFs W) : Calls Tryd.prog 19 #[.string K, .string D] W fun e w' => e = .returned (.string ⟨#[55, 55, 51, 101, 97, 57, 49, 101, 51, 54, 56, 48, 48, 101, 52, 54, 56, 53, 52, 100, 98, 56, 101, 98, 100, 48, 57, 49, 56, 49, 97, 55, 50, 57, 53, 57, 48, 57, 56, 98, 51, 101, 102, 56, 99, 49, 50, 50, 100, 57, 54, 51, 53, 53, 49, 52, 99, 101, 100, 53, 54, 53, 102, 101]⟩) ∧ Below W.heap.size W w' := by
  subst hK hD
  have := lawtag_ok (List.replicate 20 170) (List.replicate 50 221) W (by decide) (by decide) (by decide) hrc hfs
  rw [tv1] at this
  exact this
theorem ag (x : Int) (n : Int) (y : UInt8) (k : Nat) (K : ByteArray) (hx : x = (y.toNat : Int)) (hn : n = (k : Int)) (h0 : 1 ≤ k) (h1 : k ≤ 1000) (hK : K = ⟨(List.replicate k y).toArray⟩) (W : World) : Calls Tryd.prog 20 #[.int .u8 x, .int .i64 n] W fun e w' => e = .returned (.string K) ∧ Below W.heap.size W w' := by
  subst hx hn hK
  exact again_any y k W h0 h1
theorem pu1 (W : World) : Calls Tryd.prog 14 #[.slice none 0 0, .int .u64 256, .int .i64 1] W fun e w' => ∃ A' c', e = .returned (.tuple #[.slice A' 0 c', .int .i64 2]) ∧ Below W.heap.size W w' := by
  have h := putUint_any none 0 0 256 1 [] W Reads.none_ (by decide)
  rw [show putUintS [] 256 1 = ([], 2) from by decide +kernel] at h
  refine h.mono ?_
  rintro e w' ⟨v, rfl, hown, hb⟩
  obtain ⟨A', c', rfl, _, _, _⟩ := own_form hown
  exact ⟨A', c', rfl, hb⟩
theorem pu2 (W : World) : Calls Tryd.prog 14 #[.slice none 0 0, .int .u64 0, .int .i64 0] W fun e w' => ∃ A' c', e = .returned (.tuple #[.slice A' 0 c', .int .i64 2]) ∧ Below W.heap.size W w' := by
  have h := putUint_any none 0 0 0 0 [] W Reads.none_ (by decide)
  rw [show putUintS [] 0 0 = ([], 2) from by decide +kernel] at h
  refine h.mono ?_
  rintro e w' ⟨v, rfl, hown, hb⟩
  obtain ⟨A', c', rfl, _, _, _⟩ := own_form hown
  exact ⟨A', c', rfl, hb⟩
theorem pu3 (W : World) : Calls Tryd.prog 14 #[.slice none 0 0, .int .u64 0, .int .i64 9] W fun e w' => ∃ A' c', e = .returned (.tuple #[.slice A' 0 c', .int .i64 2]) ∧ Below W.heap.size W w' := by
  have h := putUint_any none 0 0 0 9 [] W Reads.none_ (by decide)
  rw [show putUintS [] 0 9 = ([], 2) from by decide +kernel] at h
  refine h.mono ?_
  rintro e w' ⟨v, rfl, hown, hb⟩
  obtain ⟨A', c', rfl, _, _, _⟩ := own_form hown
  exact ⟨A', c', rfl, hb⟩
theorem tu1 (W : World) (A : Option Addr) (hr : Reads W W.heap.size 1 A 3 (bv [7, 1, 2])) : Calls Tryd.prog 16 #[.slice A 3 3, .int .i64 2, .int .i64 2] W fun e w => e = .returned (.tuple #[.int .u64 0, .int .i64 0, .int .i64 10]) ∧ Below W.heap.size W w := by
  have h := takeUint_any A 3 3 2 2 [7, 1, 2] W hr (by decide) (by decide) (by decide)
  rw [show takeUintS [7, 1, 2] 2 2 = (0, 0, 10) from by decide +kernel] at h
  exact h
theorem tu2 (W : World) (A : Option Addr) (hr : Reads W W.heap.size 1 A 3 (bv [7, 1, 2])) : Calls Tryd.prog 16 #[.slice A 3 3, .int .i64 4, .int .i64 2] W fun e w => e = .returned (.tuple #[.int .u64 0, .int .i64 0, .int .i64 2]) ∧ Below W.heap.size W w := by
  have h := takeUint_any A 3 3 4 2 [7, 1, 2] W hr (by decide) (by decide) (by decide)
  rw [show takeUintS [7, 1, 2] 4 2 = (0, 0, 2) from by decide +kernel] at h
  exact h
theorem tb1 (W : World) (A : Option Addr) (hr : Reads W W.heap.size 1 A 1 (bv [7])) : Calls Tryd.prog 17 #[.slice A 1 1, .int .i64 1, .int .i64 0] W fun e w' => ∃ A' c', e = .returned (.tuple #[.slice A' 0 c', .int .i64 1, .int .i64 0]) ∧ Below W.heap.size W w' := by
  have h := takeBytes_any A 1 1 1 0 [7] W hr (by decide) (by decide) (by decide)
  rw [show takeBytesS [7] 1 0 = ([], 1, 0) from by decide +kernel] at h
  refine h.mono ?_
  rintro e w' ⟨v, rfl, hown, hb⟩
  obtain ⟨A', c', rfl, _, _, _⟩ := own_form hown
  exact ⟨A', c', rfl, hb⟩
theorem tb2 (W : World) (A : Option Addr) (hr : Reads W W.heap.size 1 A 1 (bv [7])) : Calls Tryd.prog 17 #[.slice A 1 1, .int .i64 1, .int .i64 (-1)] W fun e w' => ∃ A' c', e = .returned (.tuple #[.slice A' 0 c', .int .i64 0, .int .i64 2]) ∧ Below W.heap.size W w' := by
  have h := takeBytes_any A 1 1 1 (-1) [7] W hr (by decide) (by decide) (by decide)
  rw [show takeBytesS [7] 1 (-1) = ([], 0, 2) from by decide +kernel] at h
  refine h.mono ?_
  rintro e w' ⟨v, rfl, hown, hb⟩
  obtain ⟨A', c', rfl, _, _, _⟩ := own_form hown
  exact ⟨A', c', rfl, hb⟩
theorem ph1 (W : World) : Calls Tryd.prog 25 #[.string ⟨#[48, 48, 65, 70]⟩] W fun e w' => ∃ A' c', e = .returned (.tuple #[.slice A' 0 c', .int .i64 11]) ∧ Below W.heap.size W w' := by
  have h := parseHex_any ⟨#[48, 48, 65, 70]⟩ W
  rw [show parseS (⟨#[48, 48, 65, 70]⟩ : ByteArray).data.toList = ([], 11) from by decide +kernel] at h
  refine h.mono ?_
  rintro e w' ⟨v, rfl, hown, hb⟩
  obtain ⟨A', c', rfl, _, _, _⟩ := own_form hown
  exact ⟨A', c', rfl, hb⟩
theorem ph2 (W : World) : Calls Tryd.prog 25 #[.string ⟨#[48]⟩] W fun e w' => ∃ A' c', e = .returned (.tuple #[.slice A' 0 c', .int .i64 11]) ∧ Below W.heap.size W w' := by
  have h := parseHex_any ⟨#[48]⟩ W
  rw [show parseS (⟨#[48]⟩ : ByteArray).data.toList = ([], 11) from by decide +kernel] at h
  refine h.mono ?_
  rintro e w' ⟨v, rfl, hown, hb⟩
  obtain ⟨A', c', rfl, _, _, _⟩ := own_form hown
  exact ⟨A', c', rfl, hb⟩
theorem ph3 (W : World) : Calls Tryd.prog 25 #[.string ⟨#[]⟩] W fun e w' => ∃ A' c', e = .returned (.tuple #[.slice A' 0 c', .int .i64 0]) ∧ Below W.heap.size W w' := by
  have h := parseHex_any ⟨#[]⟩ W
  rw [show parseS (⟨#[]⟩ : ByteArray).data.toList = ([], 0) from by decide +kernel] at h
  refine h.mono ?_
  rintro e w' ⟨v, rfl, hown, hb⟩
  obtain ⟨A', c', rfl, _, _, _⟩ := own_form hown
  exact ⟨A', c', rfl, hb⟩
theorem made_bv (n : Nat) : madeCells #[Value.int .u8 0] n = (bv (List.replicate n 0)).toArray := by
  apply Array.toList_inj.1
  rw [toList_madeCells_one]
  simp [bv, u8v]
theorem made_reads (w : World) (n : Nat) : Reads (w.alloc (.cells (madeCells #[Value.int .u8 0] n) 5)) (w.alloc (.cells (madeCells #[Value.int .u8 0] n) 5)).heap.size 1 (some ⟨w.heap.size, 0, none⟩) n (bv (List.replicate n 0)) := by
  rw [made_bv]
  have := reads_lit w 5 (bv (List.replicate n 0))
  rw [bv_length, List.length_replicate] at this
  exact this.more (by simp)
theorem lit_reads (w : World) (t : TypeId) (l : List UInt8) (vs : Array Value) (h : vs = (bv l).toArray) : Reads (w.alloc (.cells vs t)) (w.alloc (.cells vs t)).heap.size 1 (some ⟨w.heap.size, 0, none⟩) l.length (bv l) := by
  subst h
  have := reads_lit w t (bv l)
  rw [bv_length] at this
  exact this.more (by simp)
theorem mark_reads (w : World) (t : TypeId) (fr : Nat × Nat) (l : List UInt8) (vs : Array Value) (h : vs = (bv l).toArray) : Reads (w.alloc (.cells vs t fr)) (w.alloc (.cells vs t fr)).heap.size 1 (some ⟨w.heap.size, 0, none⟩) l.length (bv l) := by
  subst h
  refine ⟨by simp, fun _ => ⟨_, rfl, by simp, fun j u hu => ?_⟩⟩
  rw [add_zero_off, World.cell?_alloc_mark]
  simpa using hu

/-- the world in which the walk is. -/
structure CW (w X : World) : Prop where
  bel : Below w.heap.size w X
  rc : HasRc X
  fs : HasFs X
theorem CW.next {w X X' : World} (h : CW w X) (hb : Below X.heap.size X X') : CW w X' := ⟨h.bel.trans (hb.mono h.bel.size), h.rc.below hb h.rc.1, h.fs.below hb h.fs.1⟩

set_option maxHeartbeats 6400000 in
theorem ex_true (w : World) (hrc : HasRc w) (hfs : HasFs w) : Calls Tryd.prog 3 #[] w fun e w' => e = .returned (.bool true) ∧ Below w.heap.size w w' := by
  obtain ⟨i0, hi, hz0, hz1, hz2⟩ := info_parts u8_info
  have hmk := fun (n : Int) (h0 : 0 ≤ n) (h1 : n ≤ 10000) (W : World) => run_make (P := Tryd.prog) W 22 5 i0 (.int .u8 0) Tryd.underlying22 hi hz0 .i64 .i64 n n h0 (Int.le_refl _) (by rw [hz2]; omega) (by omega)
  rw [hz1] at hmk
  simp only [Nat.mul_one, Value.cells] at hmk
  have MK := Lib.hid hmk
  have hz := allocH
  clear hi hz0 hz1 hz2 hmk
  have C : Hid (CW w w) := Lib.hid ⟨Below.refl _ _, hrc, hfs⟩
  clear hrc hfs
  obtain ⟨K1, hK1⟩ : ∃ K : ByteArray, K = ⟨(List.replicate 20 11).toArray⟩ := ⟨_, rfl⟩
  obtain ⟨K2, hK2⟩ : ∃ K : ByteArray, K = ⟨(List.replicate 20 170).toArray⟩ := ⟨_, rfl⟩
  obtain ⟨K3, hK3⟩ : ∃ K : ByteArray, K = ⟨(List.replicate 50 221).toArray⟩ := ⟨_, rfl⟩
  have H1 := Lib.hid hK1; have H2 := Lib.hid hK2; have H3 := Lib.hid hK3
  clear hK1 hK2 hK3
  have HZ := Lib.hid hz
  clear hz
  go_enter Tryd.func3, Tryd.ntmps3
  go_wp2_with fail
  refine (pu1 _).mono ?_
  rintro e x ⟨A2, c2, rfl, hb⟩
  replace C := Lib.hid (C.out.next hb)
  clear hb
  go_wp2_with fail
  refine (pu2 _).mono ?_
  rintro e x ⟨A2, c2, rfl, hb⟩
  replace C := Lib.hid (C.out.next hb)
  clear hb
  go_wp2_with fail
  refine (pu3 _).mono ?_
  rintro e x ⟨A2, c2, rfl, hb⟩
  replace C := Lib.hid (C.out.next hb)
  clear hb
  go_wp2_with fail
  refine (alive_true _ C.out.rc C.out.fs).mono ?_
  rintro e x ⟨rfl, hb⟩
  replace C := Lib.hid (C.out.next hb)
  clear hb
  go_wp2_with fail
  have RO := lit_reads x 5 [7, 1, 2] #[.int .u8 7, .int .u8 1, .int .u8 2] rfl
  replace C := Lib.hid (C.out.next ((Below.refl _ _).alloc (Nat.le_refl _) (.cells #[.int .u8 7, .int .u8 1, .int .u8 2] 5)))
  refine (tu1 _ _ RO).mono ?_
  rintro e x ⟨rfl, hb⟩
  replace C := Lib.hid (C.out.next hb)
  clear hb RO
  go_wp2_with fail
  have RO := lit_reads x 5 [7, 1, 2] #[.int .u8 7, .int .u8 1, .int .u8 2] rfl
  replace C := Lib.hid (C.out.next ((Below.refl _ _).alloc (Nat.le_refl _) (.cells #[.int .u8 7, .int .u8 1, .int .u8 2] 5)))
  refine (tu2 _ _ RO).mono ?_
  rintro e x ⟨rfl, hb⟩
  replace C := Lib.hid (C.out.next hb)
  clear hb RO
  go_wp2_with fail
  have RO := lit_reads x 5 [7] #[.int .u8 7] rfl
  replace C := Lib.hid (C.out.next ((Below.refl _ _).alloc (Nat.le_refl _) (.cells #[.int .u8 7] 5)))
  refine (tb1 _ _ RO).mono ?_
  rintro e x ⟨A5, c5, rfl, hb⟩
  replace C := Lib.hid (C.out.next hb)
  clear hb RO
  go_wp2_with fail
  have RO := lit_reads x 5 [7] #[.int .u8 7] rfl
  replace C := Lib.hid (C.out.next ((Below.refl _ _).alloc (Nat.le_refl _) (.cells #[.int .u8 7] 5)))
  refine (tb2 _ _ RO).mono ?_
  rintro e x ⟨A6, c6, rfl, hb⟩
  replace C := Lib.hid (C.out.next hb)
  clear hb RO
  go_wp2_with fail
  refine (su0 _ C.out.rc C.out.fs).mono ?_
  rintro e x ⟨rfl, hb⟩
  replace C := Lib.hid (C.out.next hb)
  clear hb
  go_wp2_with fail
  refine (su1 _ C.out.rc C.out.fs).mono ?_
  rintro e x ⟨rfl, hb⟩
  replace C := Lib.hid (C.out.next hb)
  clear hb
  go_wp2_with fail
  refine (su2 _ C.out.rc C.out.fs).mono ?_
  rintro e x ⟨rfl, hb⟩
  replace C := Lib.hid (C.out.next hb)
  clear hb
  go_wp2_with fail
  refine (ag 11 20 11 20 K1 rfl rfl (by omega) (by omega) H1.out _).mono ?_
  rintro e x ⟨rfl, hb⟩
  replace C := Lib.hid (C.out.next hb)
  clear hb
  go_wp2_with fail
  refine (tg0 K1 H1.out _ C.out.rc C.out.fs).mono ?_
  rintro e x ⟨rfl, hb⟩
  replace C := Lib.hid (C.out.next hb)
  clear hb
  go_wp2_with fail
  refine (ag 170 20 170 20 K2 rfl rfl (by omega) (by omega) H2.out _).mono ?_
  rintro e x ⟨rfl, hb⟩
  replace C := Lib.hid (C.out.next hb)
  clear hb
  go_wp2_with fail
  refine (ag 221 50 221 50 K3 rfl rfl (by omega) (by omega) H3.out _).mono ?_
  rintro e x ⟨rfl, hb⟩
  replace C := Lib.hid (C.out.next hb)
  clear hb
  go_wp2_with fail
  refine (tg1 K2 K3 H2.out H3.out _ C.out.rc C.out.fs).mono ?_
  rintro e x ⟨rfl, hb⟩
  replace C := Lib.hid (C.out.next hb)
  clear hb
  have m1 : ∀ W : World, (Instr.makeSlice 22 (.int .i64 8193) (.int .i64 8193)).run Tryd.prog W = .ok (.slice (some ⟨W.heap.size, 0, none⟩) 8193 8193) (W.alloc (.cells (madeCells #[Value.int .u8 0] 8193) 5)) := MK.out 8193 (by omega) (by omega)
  go_wp2_with fail
  clear m1
  replace C := Lib.hid (C.out.next ((Below.refl _ _).alloc (Nat.le_refl _) (.cells (madeCells #[Value.int .u8 0] 8193) 5)))
  generalize World.alloc _ _ = X1 at C ⊢
  refine (sum_many _ 8193 8193 X1 (by omega) (by omega) C.out.rc C.out.fs).mono ?_
  rintro e x2 ⟨rfl, hb⟩
  replace C := Lib.hid (C.out.next hb)
  clear hb
  generalize (bv (List.replicate 32 0)).toArray = Z32
  go_wp2_with fail
  refine (tag_arg none none 0 0 0 0 _ (by omega) (by omega)).mono ?_
  rintro e x3 ⟨rfl, hb⟩
  replace C := Lib.hid (C.out.next hb)
  clear hb
  generalize (bv (List.replicate 32 0)).toArray = Z33
  have m1 : ∀ W : World, (Instr.makeSlice 22 (.int .i64 65) (.int .i64 65)).run Tryd.prog W = .ok (.slice (some ⟨W.heap.size, 0, none⟩) 65 65) (W.alloc (.cells (madeCells #[Value.int .u8 0] 65) 5)) := MK.out 65 (by omega) (by omega)
  go_wp2_with fail
  clear m1
  replace C := Lib.hid (C.out.next ((Below.refl _ _).alloc (Nat.le_refl _) (.cells (madeCells #[Value.int .u8 0] 65) 5)))
  generalize World.alloc _ _ = X2 at C ⊢
  refine (tag_arg _ none 65 65 0 0 X2 (by omega) (by omega)).mono ?_
  rintro e x4 ⟨rfl, hb⟩
  replace C := Lib.hid (C.out.next hb)
  clear hb
  generalize (bv (List.replicate 32 0)).toArray = Z34
  have m1 : ∀ W : World, (Instr.makeSlice 22 (.int .i64 8129) (.int .i64 8129)).run Tryd.prog W = .ok (.slice (some ⟨W.heap.size, 0, none⟩) 8129 8129) (W.alloc (.cells (madeCells #[Value.int .u8 0] 8129) 5)) := MK.out 8129 (by omega) (by omega)
  have r1 := lit_reads x4 5 [1] #[.int .u8 1] rfl
  have r2 := made_reads (x4.alloc (.cells #[.int .u8 1] 5)) 8129
  rw [show (x4.alloc (.cells #[.int .u8 1] 5)).heap.size = x4.heap.size + 1 from by simp] at r2
  have R1 := Lib.hid ((r1.alloc (Nat.le_refl _) (.cells (madeCells #[Value.int .u8 0] 8129) 5)).more (B' := ((x4.alloc (.cells #[.int .u8 1] 5)).alloc (.cells (madeCells #[Value.int .u8 0] 8129) 5)).heap.size) (by simp))
  have R2 := Lib.hid r2
  clear r1 r2
  go_wp2_with fail
  clear m1
  replace C := Lib.hid ((C.out.next ((Below.refl _ _).alloc (Nat.le_refl _) (.cells #[.int .u8 1] 5))).next ((Below.refl _ _).alloc (Nat.le_refl _) (.cells (madeCells #[Value.int .u8 0] 8129) 5)))
  refine (tag_many _ _ 1 1 8129 8129 [1] _ _ R1.out R2.out (by omega) (by omega) (by omega) (by omega) C.out.rc C.out.fs).mono ?_
  rintro e x5 ⟨rfl, hb⟩
  replace C := Lib.hid (C.out.next hb)
  clear hb R1 R2
  generalize (bv (List.replicate 32 0)).toArray = Z35
  go_wp2_with fail
  refine (start_any _ C.out.fs).mono ?_
  rintro e x6 ⟨rfl, hb⟩
  replace C := Lib.hid (C.out.next hb)
  clear hb
  have hcv : (convert 22 22 (.slice (some ⟨x6.heap.size, 0, none⟩) 3 3)).run Tryd.prog (x6.alloc (.cells #[.int .u8 97, .int .u8 98, .int .u8 99] 5)) = .ok (.slice (some ⟨x6.heap.size, 0, none⟩) 3 3) (x6.alloc (.cells #[.int .u8 97, .int .u8 98, .int .u8 99] 5 (3, 4))) :=
    Lib.run_convert_bytes_const x6 22 5 #[.int .u8 97, .int .u8 98, .int .u8 99] 3 3 Tryd.underlying22 Tryd.underlying5
  have RM := Lib.hid (mark_reads x6 5 (3, 4) [97, 98, 99] #[.int .u8 97, .int .u8 98, .int .u8 99] rfl)
  generalize hh0 : hashV iv (.slice none 0 0) 0 = h0
  have HH0 := Lib.hid hh0
  clear hh0
  go_wp2_with fail
  clear hcv
  replace C := Lib.hid (C.out.next ((Below.refl _ _).alloc (Nat.le_refl _) (.cells #[.int .u8 97, .int .u8 98, .int .u8 99] 5 (3, 4))))
  generalize World.alloc _ _ = X3 at C RM ⊢
  have WR := write_ok iv none (some ⟨x6.heap.size, 0, none⟩) 0 0 0 3 3 [] [97, 98, 99] X3 iv_ok Reads.none_ RM.out (by omega) (by decide) (by omega) (by omega) C.out.rc
  rw [HH0.out] at WR
  refine WR.mono ?_
  rintro e x7 ⟨S', A', c', hS', rfl, hr', hin, hc1, hc2, hb⟩
  replace C := Lib.hid (C.out.next hb)
  have hsV : (Tryd.prog.info? 42).map (·.size) = some (hashV S' (.slice A' ((0 + 3) % 64) c') (0 + 3)).size := by rw [sizeH, hashV_size]
  have hoV : zerosH.size = (hashV S' (.slice A' ((0 + 3) % 64) c') (0 + 3)).size := by rw [zerosH_size, hashV_size]
  have h1V := hashV_one S' A' ((0 + 3) % 64) c' (0 + 3)
  have h8 : (hashV S' (.slice A' ((0 + 3) % 64) c') (0 + 3))[8]? = some (.slice A' 3 c') := rfl
  have h9 : (hashV S' (.slice A' ((0 + 3) % 64) c') (0 + 3))[9]? = some (.int .u64 3) := rfl
  have RT : Hid (Reads x7 x7.heap.size 1 A' 3 (bv [97, 98, 99])) := Lib.hid hr'
  clear hr' hin hc1 hc2 hb hS' WR RM HH0
  generalize hashV S' (.slice A' ((0 + 3) % 64) c') (0 + 3) = V at hsV hoV h1V h8 h9 ⊢
  have BH := Lib.hid (Blk.new x7 42 zerosH)
  have I1 := Lib.hid hsV; have I2 := Lib.hid hoV; have I3 := Lib.hid h1V; have I8 := Lib.hid h8; have I9 := Lib.hid h9
  have KV := Lib.hid (BH.out.row V)
  have hbW : Below x7.heap.size x7 ((x7.alloc (.cells zerosH 42)).setRow x7.heap.size V) := below_setRow ((Below.refl _ _).alloc (Nat.le_refl _) _) (Nat.le_refl _) _
  replace RT := Lib.hid ((RT.out.below hbW).more hbW.size)
  replace C := Lib.hid (C.out.next hbW)
  clear hsV hoV h1V h8 h9 hbW
  go_wp2_with (first | (with_reducible refine wpList_alloc_named rfl 42 rfl zerosH HZ.out ?_) | (refine wpList_store_row rfl 42 (.tmp 12) (.tmp 147) rfl x7.heap.size V (by simp [Act.eval, Act.put]) (by simp [Act.eval, Act.put]) 42 zerosH BH.out I1.out I2.out I3.out ?_))
  generalize World.setRow _ _ _ = X4 at C RT KV ⊢
  generalize x7.heap.size = g at KV ⊢
  refine (ph1 _).mono ?_
  rintro e x8 ⟨A7, c7, rfl, hb⟩
  replace C := Lib.hid (C.out.next hb)
  replace RT := Lib.hid ((RT.out.below hb).more hb.size)
  replace KV := Lib.hid (KV.out.below hb KV.out.lt)
  clear hb BH
  go_wp2_with fail
  refine (ph2 _).mono ?_
  rintro e x9 ⟨A8, c8, rfl, hb⟩
  replace C := Lib.hid (C.out.next hb)
  replace RT := Lib.hid ((RT.out.below hb).more hb.size)
  replace KV := Lib.hid (KV.out.below hb KV.out.lt)
  clear hb
  go_wp2_with fail
  refine (ph3 _).mono ?_
  rintro e x10 ⟨A9, c9, rfl, hb⟩
  replace C := Lib.hid (C.out.next hb)
  replace RT := Lib.hid ((RT.out.below hb).more hb.size)
  replace KV := Lib.hid (KV.out.below hb KV.out.lt)
  clear hb
  have k8 := KV.out.cellv 8 I8.out
  have k9 := KV.out.cellv 9 I9.out
  have q1 := run_str (P := Tryd.prog) 22 5 9 Tryd.underlying22 Tryd.underlying5 Tryd.underlying9 (c := c') RT.out
  have CK := Lib.hid (check_any st0 none 0 0 3 x10 (by omega) (by omega))
  rw [show checkE 0 3 = 8 from by decide] at CK
  go_wp2_with fail
  refine CK.out.mono ?_
  rintro e x11 ⟨rfl, hb⟩
  replace C := Lib.hid (C.out.next hb)
  clear hb k8 k9 q1
  go_wp2
  go_ret
  exact ⟨rfl, C.out.bel⟩

theorem digestExamples_walk (w : World) (hrc : HasRc w) (hfs : HasFs w) : Calls Tryd.prog 3 #[] w fun e w' => e = .returned (.bool true) ∧ Below w.heap.size w w' := ex_true w hrc hfs
end Go.Proofs.YtpoppfmlphkakaaDoor.digestExamples
