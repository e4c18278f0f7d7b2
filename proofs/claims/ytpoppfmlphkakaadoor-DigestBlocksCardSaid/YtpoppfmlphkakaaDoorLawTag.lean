/-
  The law package's helper 'tag': the tag of a string under a key, as text.
-/
import Derived.Test.YtpoppfmlphkakaaDoorHex
import Derived.Test.YtpoppfmlphkakaaDoorConv
import Derived.Test.YtpoppfmlphkakaaDoorTag2
namespace Go.Proofs.YtpoppfmlphkakaaDoor
set_option linter.unusedVariables false
set_option linter.unusedSimpArgs false
set_option maxRecDepth 100000
open Go.RowKit

set_option maxHeartbeats 1600000 in
theorem lawtag_ok (key l : List UInt8) (w : World) (hk0 : 1 ≤ key.length) (hk : key.length ≤ 64) (hl : l.length ≤ 8128) (hrc : HasRc w) (hfs : HasFs w) :
    Calls Tryd.prog 19 #[.string ⟨key.toArray⟩, .string ⟨l.toArray⟩] w fun e w' => e = .returned (.string ⟨(hexS (tagB key l)).1.toArray⟩) ∧ Below w.heap.size w w' := by
  have htag := fun (W : World) (A A2 : Option Addr) (c c2 : Nat) (hr : Reads W W.heap.size 1 A key.length (bv key)) (hr2 : Reads W W.heap.size 1 A2 l.length (bv l)) (hb : Below w.heap.size w W) => tag_ok A A2 key.length c l.length c2 key l W hr hr2 hk0 hk hl (hrc.below hb hrc.1) (hfs.below hb hfs.1)
  have hhex := fun (W : World) => lawhex_ok (tagB key l) W (tagB_length key l)
  have SU := Lib.hid htag; have HE := Lib.hid hhex
  clear htag hhex hrc hfs
  go_enter Tryd.func19, Tryd.ntmps19
  go_wp2_with (first | (refine wpList_bytes_of rfl 9 22 5 (.tmp 8) rfl key rfl Tryd.underlying9 Tryd.underlying22 Tryd.underlying5 ?_; intro w1 c1 hr1 hb1) | (refine wpList_bytes_of rfl 9 22 5 (.tmp 10) rfl l rfl Tryd.underlying9 Tryd.underlying22 Tryd.underlying5 ?_; intro w2 c2 hr2 hb2))
  have hw2 : Below w.heap.size w w2 := hb1.trans (hb2.mono hb1.size)
  refine (SU.out _ _ _ c1 c2 ((hr1.below hb2).more hb2.size) hr2 hw2).mono ?_
  rintro e w3 ⟨rfl, hb3⟩
  have hw3 : Below w.heap.size w w3 := hw2.trans (hb3.mono hw2.size)
  have hsD : (Tryd.prog.info? 35).map (·.size) = some (bv (tagB key l)).toArray.size := by rw [size32]; simp [tagB_length]
  have hoD : zeros32.size = (bv (tagB key l)).toArray.size := by rw [zeros32_size]; simp [tagB_length]
  have h1D : (bv (tagB key l)).toArray.all (·.oneCell') = true := by
    rw [Array.all_eq_true_iff_forall_mem]
    intro v hv
    exact bv_oneCell (tagB key l) v (by simpa using hv)
  have hhx := HE.out
  generalize (bv (tagB key l)).toArray = V at hsD hoD h1D hhx ⊢
  have hz32 := alloc32
  have bh := Blk.new w3 35 zeros32
  have hbW : Below w.heap.size w ((w3.alloc (.cells zeros32 35)).setRow w3.heap.size V) := below_setRow (hw3.alloc hw3.size _) hw3.size _
  have U2 := Lib.hid hsD; have U3 := Lib.hid hoD; have U4 := Lib.hid h1D; have HX := Lib.hid hhx; have BH := Lib.hid bh; have BW := Lib.hid hbW
  clear hsD hoD h1D hhx bh hbW hw2 hw3 hb3 hb2 hb1 hr1 hr2 SU HE
  go_wp2_with (first | (with_reducible refine wpList_alloc_named rfl 35 rfl zeros32 hz32 ?_) | (refine wpList_store_row rfl 35 (.tmp 5) (.tmp 13) rfl w3.heap.size V rfl rfl 35 zeros32 BH.out U2.out U3.out U4.out ?_) | (refine wpList_load_row rfl 35 (.tmp 5) rfl w3.heap.size rfl 35 V (0, 0) _ (BH.out.row _) Tryd.underlying35 rfl U2.out ?_))
  refine (HX.out _).mono ?_
  rintro e w4 ⟨rfl, hb4⟩
  have hw4 := BW.out.trans (hb4.mono BW.out.size)
  have H4 := Lib.hid hw4
  clear hw4 hb4 BW
  go_wp2
  go_ret
  exact ⟨rfl, H4.out⟩
end Go.Proofs.YtpoppfmlphkakaaDoor
