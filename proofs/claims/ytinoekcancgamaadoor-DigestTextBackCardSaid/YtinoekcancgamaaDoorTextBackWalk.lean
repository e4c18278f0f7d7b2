/-
  DIGESTTEXTBACK: the walk.
-/
import Derived.Test.YtinoekcancgamaaDoorAlive
import Derived.Test.YtinoekcancgamaaDoorBack
namespace Go.Proofs.YtinoekcancgamaaDoor
set_option linter.unusedVariables false
set_option linter.unusedSimpArgs false
set_option maxRecDepth 100000
open Go.RowKit

set_option maxHeartbeats 1600000 in
theorem textback_many (A : Option Addr) (n c : Nat) (l : List UInt8) (s : ByteArray) (w : World) (hr : Reads w w.heap.size 1 A n (bv l)) (hn : 8192 < n) (hn2 : n ≤ 140737488351232) (hrc : HasRc w) (hfs : HasFs w) :
    Calls Tryd.prog 13 #[.slice A n c, .string s] w fun e w' => e = .returned (.bool true) ∧ Below w.heap.size w w' := by
  have hlen : l.length = n := by have := hr.1; simpa using this
  have hS : hexS l = ([], 4) := by unfold hexS; rw [if_pos (by omega)]
  have HR := Lib.hid hr; have HRC := Lib.hid hrc; have HFS := Lib.hid hfs; have HS := Lib.hid hS
  clear hr hrc hfs hS hlen
  go_enter Tryd.func13, Tryd.ntmps13
  go_wp2_with fail
  refine (alive_true _ HRC.out HFS.out).mono ?_
  rintro e w1 ⟨rfl, hb1⟩
  have hx := hex_any A n c l w1 ((HR.out.below hb1).more hb1.size)
  rw [HS.out] at hx
  have HX := Lib.hid hx; have B1 := Lib.hid hb1
  clear hx hb1
  go_wp2_with fail
  refine HX.out.mono ?_
  rintro e w2 ⟨rfl, hb2⟩
  have hb := B1.out.trans (hb2.mono B1.out.size)
  have HB := Lib.hid hb
  clear hb hb2 B1 HX
  go_wp2
  go_ret
  exact ⟨rfl, HB.out⟩

set_option maxHeartbeats 1600000 in
theorem textback_few (A : Option Addr) (n c : Nat) (l : List UInt8) (s : ByteArray) (w : World) (hr : Reads w w.heap.size 1 A n (bv l)) (hn : n ≤ 8192) (hrc : HasRc w) (hfs : HasFs w) :
    Calls Tryd.prog 13 #[.slice A n c, .string s] w fun e w' => e = .returned (.bool true) ∧ Below w.heap.size w w' := by
  have hlen : l.length = n := by have := hr.1; simpa using this
  have hS : hexS l = (hexOf l, 0) := by unfold hexS; rw [if_neg (by omega)]
  have hP : parseS (hexOf l) = (l, 0) := parse_hex l (by omega)
  have hsz : ((⟨(hexOf l).toArray⟩ : ByteArray).size : Int) = 2 * (n : Int) := by
    show (((hexOf l).toArray.size : Nat) : Int) = _
    simp [hexOf_length, hlen]
  have HR := Lib.hid hr; have HRC := Lib.hid hrc; have HFS := Lib.hid hfs; have HS := Lib.hid hS; have HP := Lib.hid hP; have HL := Lib.hid hlen
  clear hr hrc hfs hS hP hlen
  go_enter Tryd.func13, Tryd.ntmps13
  go_wp2_with fail
  refine (alive_true _ HRC.out HFS.out).mono ?_
  rintro e w1 ⟨rfl, hb1⟩
  have hx := hex_any A n c l w1 ((HR.out.below hb1).more hb1.size)
  rw [HS.out] at hx
  have HX := Lib.hid hx; have B1 := Lib.hid hb1
  clear hx hb1
  go_wp2_with fail
  refine HX.out.mono ?_
  rintro e w2 ⟨rfl, hb2⟩
  have hb := B1.out.trans (hb2.mono B1.out.size)
  have B2 := Lib.hid hb
  clear hb hb2 B1 HX
  have hp := parseHex_any ⟨(hexOf l).toArray⟩ w2
  rw [show (⟨(hexOf l).toArray⟩ : ByteArray).data.toList = hexOf l from by simp, HP.out] at hp
  have HPP := Lib.hid hp
  clear hp
  go_wp2_with fail
  refine HPP.out.mono ?_
  rintro e w3 ⟨v3, rfl, hown3, hb3⟩
  obtain ⟨A3, c3, rfl, h31, h32, _⟩ := own_form hown3
  have hr3 := Reads.of_own hown3
  have hbw := B2.out.trans (hb3.mono B2.out.size)
  have q1 := run_str (P := Tryd.prog) 22 5 9 Tryd.underlying22 Tryd.underlying5 Tryd.underlying9 (c := c) ((HR.out.below hbw))
  have q3 := run_str (P := Tryd.prog) 22 5 9 Tryd.underlying22 Tryd.underlying5 Tryd.underlying9 (c := c3) hr3
  have B3 := Lib.hid hbw
  clear hown3 hr3 hb3 hbw B2 HPP
  have hp2 := fun W => parseHex_any s W
  obtain ⟨d, k, hdk⟩ : ∃ d k, parseS s.data.toList = (d, k) := ⟨_, _, rfl⟩
  have hcodes := parse_codes s.data.toList
  rw [hdk] at hp2 hcodes
  simp only at hp2 hcodes
  have PP := Lib.hid hp2
  clear hp2
  rcases hcodes with hk | hk | hk
  · subst hk
    obtain ⟨hd1, hd2⟩ := hex_parse _ _ hdk
    have hsd : (⟨(hexOf d).toArray⟩ : ByteArray) = s := by rw [hd1]
    have hSd : hexS d = (hexOf d, 0) := by unfold hexS; rw [if_neg (by omega)]
    have HSD := Lib.hid hSd; have HD := Lib.hid hsd
    clear hSd hsd hdk hd1
    go_wp2_with fail
    refine (PP.out _).mono ?_
    rintro e w4 ⟨v4, rfl, hown4, hb4⟩
    obtain ⟨A4, c4, rfl, h41, h42, _⟩ := own_form hown4
    have hx4 := hex_any A4 d.length c4 d w4 (Reads.of_own hown4)
    rw [HSD.out, HD.out] at hx4
    have HX4 := Lib.hid hx4
    have hb := B3.out.trans (hb4.mono B3.out.size)
    have B4 := Lib.hid hb
    clear hb hb4 hx4 hown4 q1 q3
    go_wp2_with fail
    refine HX4.out.mono ?_
    rintro e w5 ⟨rfl, hb5⟩
    have hb := B4.out.trans (hb5.mono B4.out.size)
    have B5 := Lib.hid hb
    clear hb hb5
    go_wp2
    go_ret
    exact ⟨rfl, B5.out⟩
  · subst hk
    clear hdk
    go_wp2_with fail
    refine (PP.out _).mono ?_
    rintro e w4 ⟨v4, rfl, hown4, hb4⟩
    have hb := B3.out.trans (hb4.mono B3.out.size)
    have B4 := Lib.hid hb
    clear hb hb4 hown4 q1 q3
    go_wp2
    go_ret
    exact ⟨rfl, B4.out⟩
  · subst hk
    clear hdk
    go_wp2_with fail
    refine (PP.out _).mono ?_
    rintro e w4 ⟨v4, rfl, hown4, hb4⟩
    have hb := B3.out.trans (hb4.mono B3.out.size)
    have B4 := Lib.hid hb
    clear hb hb4 hown4 q1 q3
    go_wp2
    go_ret
    exact ⟨rfl, B4.out⟩
/-- The walk: true, whatever came in; what lay there lies there. -/
theorem textback_walk (A : Option Addr) (n c : Nat) (l : List UInt8) (s : ByteArray) (w : World) (hr : Reads w w.heap.size 1 A n (bv l)) (hn2 : n ≤ 140737488351232) (hrc : HasRc w) (hfs : HasFs w) :
    Calls Tryd.prog 13 #[.slice A n c, .string s] w fun e w' => e = .returned (.bool true) ∧ Below w.heap.size w w' := by
  by_cases h : 8192 < n
  · exact textback_many A n c l s w hr h hn2 hrc hfs
  · exact textback_few A n c l s w hr (by omega) hrc hfs
end Go.Proofs.YtinoekcancgamaaDoor
