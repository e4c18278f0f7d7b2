/-
  The law package's helper 'alive': some of the chapter's examples.
-/
import Derived.Test.YtpoppfmlphkakaaDoorLawSum
import Derived.Test.YtpoppfmlphkakaaDoorLawTag
import Derived.Test.YtpoppfmlphkakaaDoorBytes2
import Derived.Test.YtpoppfmlphkakaaDoorTexts2
import Derived.Test.YtpoppfmlphkakaaDoorVals
namespace Go.Proofs.YtpoppfmlphkakaaDoor
set_option linter.unusedVariables false
set_option linter.unusedSimpArgs false
set_option maxRecDepth 100000
open Go.RowKit

theorem lit_reads (w : World) (t : TypeId) (l : List UInt8) (vs : Array Value) (h : vs = (bv l).toArray) : Reads (w.alloc (.cells vs t)) (w.alloc (.cells vs t)).heap.size 1 (some ⟨w.heap.size, 0, none⟩) l.length (bv l) := by
  subst h
  have := reads_lit w t (bv l)
  rw [bv_length] at this
  exact this.more (by simp)

theorem al_put (W : World) (t : TypeId) : Calls Tryd.prog 14 #[.slice (some ⟨W.heap.size, 0, none⟩) 1 1, .int .u64 258, .int .i64 2] (W.alloc (.cells #[.int .u8 7] t)) fun e w' =>
    ∃ A c, e = .returned (.tuple #[.slice A 3 c, .int .i64 0]) ∧ Hid (Reads w' w'.heap.size 1 A 3 (bv [7, 1, 2])) ∧ Below W.heap.size W w' := by
  have h := putUint_any (some ⟨W.heap.size, 0, none⟩) 1 1 258 2 [7] (W.alloc (.cells #[.int .u8 7] t)) (lit_reads _ _ [7] _ rfl) (by omega)
  refine h.mono ?_
  rintro e w' ⟨v, rfl, hown, hb⟩
  rw [show putUintS [7] 258 2 = ([7, 1, 2], 0) from by decide] at hown ⊢
  obtain ⟨A, c, rfl, h1, h2, _⟩ := own_form hown
  exact ⟨A, c, rfl, Lib.hid (Reads.of_own hown), ((Below.refl _ _).alloc (Nat.le_refl _) _).trans (hb.mono (by simp))⟩
theorem al_take (W : World) (t : TypeId) : Calls Tryd.prog 16 #[.slice (some ⟨W.heap.size, 0, none⟩) 3 3, .int .i64 1, .int .i64 2] (W.alloc (.cells #[.int .u8 7, .int .u8 1, .int .u8 2] t)) fun e w' =>
    e = .returned (.tuple #[.int .u64 258, .int .i64 3, .int .i64 0]) ∧ Below W.heap.size W w' := by
  have h := takeUint_any (some ⟨W.heap.size, 0, none⟩) 3 3 1 2 [7, 1, 2] (W.alloc (.cells #[.int .u8 7, .int .u8 1, .int .u8 2] t)) (lit_reads _ _ [7, 1, 2] _ rfl) (by omega) (by omega) (by omega)
  refine h.mono ?_
  rintro e w' ⟨rfl, hb⟩
  rw [show takeUintS [7, 1, 2] 1 2 = (258, 3, 0) from by decide]
  exact ⟨rfl, ((Below.refl _ _).alloc (Nat.le_refl _) _).trans (hb.mono (by simp))⟩
theorem al_bytes (W : World) (t : TypeId) : Calls Tryd.prog 17 #[.slice (some ⟨W.heap.size, 0, none⟩) 3 3, .int .i64 1, .int .i64 2] (W.alloc (.cells #[.int .u8 7, .int .u8 1, .int .u8 2] t)) fun e w' =>
    ∃ A c, e = .returned (.tuple #[.slice A 2 c, .int .i64 3, .int .i64 0]) ∧ Hid (Reads w' w'.heap.size 1 A 2 (bv [1, 2])) ∧ Below W.heap.size W w' := by
  have h := takeBytes_any (some ⟨W.heap.size, 0, none⟩) 3 3 1 2 [7, 1, 2] (W.alloc (.cells #[.int .u8 7, .int .u8 1, .int .u8 2] t)) (lit_reads _ _ [7, 1, 2] _ rfl) (by omega) (by omega) (by omega)
  refine h.mono ?_
  rintro e w' ⟨v, rfl, hown, hb⟩
  rw [show takeBytesS [7, 1, 2] 1 2 = ([1, 2], 3, 0) from by decide] at hown ⊢
  obtain ⟨A, c, rfl, h1, h2, _⟩ := own_form hown
  exact ⟨A, c, rfl, Lib.hid (Reads.of_own hown), ((Below.refl _ _).alloc (Nat.le_refl _) _).trans (hb.mono (by simp))⟩
theorem al_parse (W : World) : Calls Tryd.prog 25 #[.string ⟨#[48, 48, 97, 102]⟩] W fun e w' =>
    ∃ A c, e = .returned (.tuple #[.slice A 2 c, .int .i64 0]) ∧ Hid (Reads w' w'.heap.size 1 A 2 (bv [0, 175])) ∧ Below W.heap.size W w' := by
  have h := parseHex_any ⟨#[48, 48, 97, 102]⟩ W
  refine h.mono ?_
  rintro e w' ⟨v, rfl, hown, hb⟩
  rw [show parseS (⟨#[48, 48, 97, 102]⟩ : ByteArray).data.toList = ([0, 175], 0) from by decide] at hown ⊢
  obtain ⟨A, c, rfl, h1, h2, _⟩ := own_form hown
  exact ⟨A, c, rfl, Lib.hid (Reads.of_own hown), hb⟩

theorem al_sum (W : World) (hrc : HasRc W) (hfs : HasFs W) : Calls Tryd.prog 18 #[.string ⟨#[97, 98, 99]⟩] W fun e w' => e = .returned (.string ⟨#[98, 97, 55, 56, 49, 54, 98, 102, 56, 102, 48, 49, 99, 102, 101, 97, 52, 49, 52, 49, 52, 48, 100, 101, 53, 100, 97, 101, 50, 50, 50, 51, 98, 48, 48, 51, 54, 49, 97, 51, 57, 54, 49, 55, 55, 97, 57, 99, 98, 52, 49, 48, 102, 102, 54, 49, 102, 50, 48, 48, 49, 53, 97, 100]⟩) ∧ Below W.heap.size W w' := by
  have h := lawsum_ok [97, 98, 99] W (by decide) hrc hfs
  rw [sha_abc] at h
  exact h
theorem al_tag (W : World) (hrc : HasRc W) (hfs : HasFs W) : Calls Tryd.prog 19 #[.string ⟨#[74, 101, 102, 101]⟩, .string ⟨#[119, 104, 97, 116, 32, 100, 111, 32, 121, 97, 32, 119, 97, 110, 116, 32, 102, 111, 114, 32, 110, 111, 116, 104, 105, 110, 103, 63]⟩] W fun e w' => e = .returned (.string ⟨#[53, 98, 100, 99, 99, 49, 52, 54, 98, 102, 54, 48, 55, 53, 52, 101, 54, 97, 48, 52, 50, 52, 50, 54, 48, 56, 57, 53, 55, 53, 99, 55, 53, 97, 48, 48, 51, 102, 48, 56, 57, 100, 50, 55, 51, 57, 56, 51, 57, 100, 101, 99, 53, 56, 98, 57, 54, 52, 101, 99, 51, 56, 52, 51]⟩) ∧ Below W.heap.size W w' := by
  have h := lawtag_ok [74, 101, 102, 101] [119, 104, 97, 116, 32, 100, 111, 32, 121, 97, 32, 119, 97, 110, 116, 32, 102, 111, 114, 32, 110, 111, 116, 104, 105, 110, 103, 63] W (by decide) (by decide) (by decide) hrc hfs
  rw [tag_jefe] at h
  exact h

set_option maxHeartbeats 1600000 in
theorem alive_true (w : World) (hrc : HasRc w) (hfs : HasFs w) :
    Calls Tryd.prog 15 #[] w fun e w' => e = .returned (.bool true) ∧ Below w.heap.size w w' := by
  have HRC := Lib.hid hrc; have HFS := Lib.hid hfs
  clear hrc hfs
  go_enter Tryd.func15, Tryd.ntmps15
  go_wp2_with fail
  refine (al_put _ _).mono ?_
  rintro e w1 ⟨A1, c1, rfl, hr1, hb1⟩
  go_wp2_with fail
  refine (al_take _ _).mono ?_
  rintro e w2 ⟨rfl, hb2⟩
  go_wp2_with fail
  refine (al_bytes _ _).mono ?_
  rintro e w3 ⟨A3, c3, rfl, hr3, hb3⟩
  go_wp2_with fail
  refine (al_parse _).mono ?_
  rintro e w4 ⟨A4, c4, rfl, hr4, hb4⟩
  have B2 := hb1.trans (hb2.mono hb1.size)
  have B3 := B2.trans (hb3.mono B2.size)
  have B4 := B3.trans (hb4.mono B3.size)
  have q1 := run_str (P := Tryd.prog) 22 5 9 Tryd.underlying22 Tryd.underlying5 Tryd.underlying9 (c := c1) (((hr1.out.below hb2).below (hb3.mono hb2.size)).below (hb4.mono (Nat.le_trans hb2.size hb3.size)))
  have q3 := run_str (P := Tryd.prog) 22 5 9 Tryd.underlying22 Tryd.underlying5 Tryd.underlying9 (c := c3) (hr3.out.below hb4)
  have q4 := run_str (P := Tryd.prog) 22 5 9 Tryd.underlying22 Tryd.underlying5 Tryd.underlying9 (c := c4) hr4.out
  have HB := Lib.hid B4
  clear hb1 hb2 hb3 hb4 B2 B3 B4 hr1 hr3 hr4
  go_wp2_with fail
  clear q1 q3 q4
  refine (al_sum _ (HRC.out.below HB.out HRC.out.1) (HFS.out.below HB.out HFS.out.1)).mono ?_
  rintro e w5 ⟨rfl, hb5⟩
  have B5 := HB.out.trans (hb5.mono HB.out.size)
  have H5 := Lib.hid B5
  clear B5 hb5
  go_wp2_with fail
  refine (al_tag _ (HRC.out.below H5.out HRC.out.1) (HFS.out.below H5.out HFS.out.1)).mono ?_
  rintro e w6 ⟨rfl, hb6⟩
  have B6 := H5.out.trans (hb6.mono H5.out.size)
  have H6 := Lib.hid B6
  clear B6 hb6
  go_wp2
  go_ret
  exact ⟨rfl, H6.out⟩
end Go.Proofs.YtpoppfmlphkakaaDoor
