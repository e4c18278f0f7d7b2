/-
  LAWTEXTSWALK: the walk of the law DigestTexts: it answers true for whatever bytes and string.
-/
import Derived.Test.YtinoekcancgamaaRefTexts
import Derived.Test.YtinoekcancgamaaFrame
namespace Go.Proofs.Ytinoekcancgamaa.digestTexts
set_option linter.unusedVariables false
set_option linter.unusedSimpArgs false
open Go.RowKit

set_option maxHeartbeats 800000 in
theorem digestTexts_walk (A : Option Addr) (n c : Nat) (l : List UInt8) (s : ByteArray) (w : World) (hr : Reads w w.heap.size 1 A n (bv l)) (hnc : n ≤ c) (hc : c ≤ 140737488351232) (hs : s.size ≤ maxLen) (hs2 : s.data.toList.length ≤ reachBytes) :
    Calls Try.prog 4 #[.slice A n c, .string s] w fun e w' => e = .returned (.bool true) ∧ Below w.heap.size w w' := by
  have hsz : s.size ≤ 140737488351232 := by
    have h1 : s.data.toList.length = s.size := rfl
    simp only [reachBytes] at hs2
    omega
  clear hs hs2
  go_enter Try.func4, Try.ntmps4
  go_wp2_with fail
  refine (hex_any A n c l w hr).mono ?_
  rintro e w1 ⟨rfl, hb1⟩
  have hs1 := hb1.size
  go_wp2_with fail
  refine (refHexed_any A n c l w1 ((hr.below hb1).more hs1)).mono ?_
  rintro e w2 ⟨rfl, hb2⟩
  have hs2 := hb2.size
  have hB2 : Below w.heap.size w w2 := hb1.trans (hb2.mono hs1)
  clear hb1 hb2
  generalize hexS l = P at *
  obtain ⟨pl, pe⟩ := P
  go_wp2_with fail
  refine (parseHex_any s w2).mono ?_
  rintro e w3 ⟨v3, rfl, hown3, hb3⟩
  obtain ⟨A3, c3, rfl, _, _, _⟩ := own_form hown3
  have r3 := Reads.of_own hown3
  have hs3 := hb3.size
  clear hown3
  go_wp2_with fail
  refine (refParsed_any s w3 hsz).mono ?_
  rintro e w4 ⟨v4, rfl, hown4, hb4⟩
  obtain ⟨A4, c4, rfl, _, _, _⟩ := own_form hown4
  have r4 := Reads.of_own hown4
  clear hown4
  have hB4 : Below w.heap.size w w4 := hB2.trans ((hb3.mono (by omega)).trans (hb4.mono (by omega)))
  have q3 := run_str (P := Try.prog) 22 5 9 Try.underlying22 Try.underlying5 Try.underlying9 (c := c3) (r3.below hb4)
  have q4 := run_str (P := Try.prog) 22 5 9 Try.underlying22 Try.underlying5 Try.underlying9 (c := c4) r4
  clear r3 r4 hb3 hb4 hB2
  generalize parseS s.data.toList = P at *
  obtain ⟨xl, xe⟩ := P
  go_wp2
  go_ret
  exact ⟨rfl, hB4⟩
end Go.Proofs.Ytinoekcancgamaa.digestTexts
