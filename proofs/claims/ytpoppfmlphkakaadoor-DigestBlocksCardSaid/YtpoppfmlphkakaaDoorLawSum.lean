/-
  The law package's helper 'sum': the digest of a string, as text.
-/
import Derived.Test.YtpoppfmlphkakaaDoorHex
import Derived.Test.YtpoppfmlphkakaaDoorConv
namespace Go.Proofs.YtpoppfmlphkakaaDoor
set_option linter.unusedVariables false
set_option linter.unusedSimpArgs false
set_option maxRecDepth 100000
open Go.RowKit

theorem shaB_length (l : List UInt8) : (shaB l).length = 32 := by unfold shaB; rw [sumBytes_length]

set_option maxHeartbeats 1600000 in
theorem lawsum_ok (l : List UInt8) (w : World) (hl : l.length ≤ 8192) (hrc : HasRc w) (hfs : HasFs w) :
    Calls Tryd.prog 18 #[.string ⟨l.toArray⟩] w fun e w' => e = .returned (.string ⟨(hexS (shaB l)).1.toArray⟩) ∧ Below w.heap.size w w' := by
  have hsum := fun (W : World) (A : Option Addr) (c : Nat) (hr : Reads W W.heap.size 1 A l.length (bv l)) (hb : Below w.heap.size w W) => sum_ok A l.length c l W hr hl (hrc.below hb hrc.1) (hfs.below hb hfs.1)
  have hhex := fun (W : World) => lawhex_ok (shaB l) W (shaB_length l)
  have SU := Lib.hid hsum; have HE := Lib.hid hhex
  clear hsum hhex hrc hfs
  go_enter Tryd.func18, Tryd.ntmps18
  go_wp2_with (first | (refine wpList_bytes_of rfl 9 22 5 (.tmp 6) rfl l rfl Tryd.underlying9 Tryd.underlying22 Tryd.underlying5 ?_; intro w1 c1 hr1 hb1))
  refine (SU.out _ _ c1 hr1 hb1).mono ?_
  rintro e w2 ⟨rfl, hb2⟩
  have hsz1 := hb1.size
  have hw2 : Below w.heap.size w w2 := hb1.trans (hb2.mono hsz1)
  have hsD : (Tryd.prog.info? 35).map (·.size) = some (bv (shaB l)).toArray.size := by rw [size32]; simp [shaB_length]
  have hoD : zeros32.size = (bv (shaB l)).toArray.size := by rw [zeros32_size]; simp [shaB_length]
  have h1D : (bv (shaB l)).toArray.all (·.oneCell') = true := by
    rw [Array.all_eq_true_iff_forall_mem]
    intro v hv
    exact bv_oneCell (shaB l) v (by simpa using hv)
  have hhx := HE.out
  generalize (bv (shaB l)).toArray = V at hsD hoD h1D hhx ⊢
  have hz32 := alloc32
  have bh := Blk.new w2 35 zeros32
  have hbW : Below w.heap.size w ((w2.alloc (.cells zeros32 35)).setRow w2.heap.size V) := below_setRow (hw2.alloc hw2.size _) hw2.size _
  have U2 := Lib.hid hsD; have U3 := Lib.hid hoD; have U4 := Lib.hid h1D; have HX := Lib.hid hhx; have BH := Lib.hid bh; have BW := Lib.hid hbW
  clear hsD hoD h1D hhx bh hbW hw2 hb2 hb1 hr1 SU HE
  go_wp2_with (first | (with_reducible refine wpList_alloc_named rfl 35 rfl zeros32 hz32 ?_) | (refine wpList_store_row rfl 35 (.tmp 3) (.tmp 9) rfl w2.heap.size V rfl rfl 35 zeros32 BH.out U2.out U3.out U4.out ?_) | (refine wpList_load_row rfl 35 (.tmp 3) rfl w2.heap.size rfl 35 V (0, 0) _ (BH.out.row _) Tryd.underlying35 rfl U2.out ?_))
  refine (HX.out _).mono ?_
  rintro e w3 ⟨rfl, hb3⟩
  have hw3 := BW.out.trans (hb3.mono BW.out.size)
  have H3 := Lib.hid hw3
  clear hw3 hb3 BW
  go_wp2
  go_ret
  exact ⟨rfl, H3.out⟩
end Go.Proofs.YtpoppfmlphkakaaDoor
