/-
  FALIVE: the helper 'alive' of the laws of floor: some of the chapter's examples.
-/
import Derived.Test.YtcbghchciplfcaaSix
namespace Go.Proofs.Ytcbghchciplfcaa
set_option linter.unusedVariables false
set_option linter.unusedSimpArgs false
set_option maxRecDepth 100000
open Go.RowKit

theorem al_priv (A : Option Addr) (c : Nat) (W : World) (hr : Hid (Reads W W.heap.size 1 A 6 (bv sixL))) : Calls Try.prog 52 #[.agg #[.int .i64 3, .int .i64 2, .slice A 6 c], .int .i64 0] W fun e w' =>
    ∃ A' c', e = .returned (.tuple #[.slice A' 2 c', .int .i64 0]) ∧ Hid (Reads w' w'.heap.size 1 A' 2 (iv [0, 5])) ∧ Below W.heap.size W w' := by
  have h := private_any 3 2 A 6 c sixL 0 W hr.out (by omega)
  rw [show privS 3 2 sixL 0 = ([0, 5], 0) from by decide] at h
  refine h.mono ?_
  rintro e w' ⟨v, rfl, hown, hb⟩
  obtain ⟨A', c', rfl, _, _, _⟩ := own_form hown
  exact ⟨A', c', rfl, Lib.hid (Reads.of_own hown), hb⟩
theorem al_aisl (A : Option Addr) (c : Nat) (W : World) (hr : Hid (Reads W W.heap.size 1 A 6 (bv sixL))) : Calls Try.prog 54 #[.agg #[.int .i64 3, .int .i64 2, .slice A 6 c]] W fun e w' =>
    ∃ A' c', e = .returned (.tuple #[.slice A' 2 c', .int .i64 0]) ∧ Hid (Reads w' w'.heap.size 1 A' 2 (iv [1, 4])) ∧ Below W.heap.size W w' := by
  have h := aisles_any 3 2 A 6 c sixL W hr.out (by omega)
  rw [show aislS 3 2 sixL = ([1, 4], 0) from by decide] at h
  refine h.mono ?_
  rintro e w' ⟨v, rfl, hown, hb⟩
  obtain ⟨A', c', rfl, _, _, _⟩ := own_form hown
  exact ⟨A', c', rfl, Lib.hid (Reads.of_own hown), hb⟩
theorem al_draw (A : Option Addr) (c : Nat) (W : World) (hr : Hid (Reads W W.heap.size 1 A 6 (bv sixL))) : Calls Try.prog 58 #[.agg #[.int .i64 3, .int .i64 2, .slice A 6 c]] W fun e w' =>
    e = .returned (.tuple #[.string ⟨#[48, 46, 49, 10, 35, 46, 48, 10]⟩, .int .i64 0]) ∧ Below W.heap.size W w' := by
  have h := draw_any 3 2 A 6 c sixL W hr.out (by omega)
  rw [show drawS 3 2 sixL = ([48, 46, 49, 10, 35, 46, 48, 10], 0) from by decide] at h
  exact h
theorem al_parse (W : World) : Calls Try.prog 59 #[.string ⟨#[48, 46, 49, 10, 35, 46, 48, 10]⟩] W fun e w' =>
    ∃ A' c', e = .returned (.tuple #[.agg #[.int .i64 3, .int .i64 2, .slice A' 6 c'], .int .i64 0]) ∧ Hid (Reads w' w'.heap.size 1 A' 6 (bv sixL)) ∧ Below W.heap.size W w' := by
  have h := parse_any ⟨#[48, 46, 49, 10, 35, 46, 48, 10]⟩ W (by decide)
  rw [show parseF (⟨#[48, 46, 49, 10, 35, 46, 48, 10]⟩ : ByteArray).data.toList = (3, 2, sixL, 0) from by decide] at h
  refine h.mono ?_
  rintro e w' ⟨v, rfl, hown, hb⟩
  obtain ⟨A', c', rfl, _, _, _⟩ := own_form hown
  exact ⟨A', c', rfl, Lib.hid (Reads.of_own hown), hb⟩
theorem al_owner (A : Option Addr) (c : Nat) (W : World) (hr : Hid (Reads W W.heap.size 1 A 4 (bv fourL))) : Calls Try.prog 53 #[.slice A 4 c, .int .u64 3] W fun e w' => e = .returned (.tuple #[.int .i64 1, .int .i64 0]) ∧ W = w' := by
  have h := sliceOwner_any A 4 c 3 fourL W hr.out (by omega) (by omega)
  rwa [show sOwnS fourL 3 = (1, 0) from by decide] at h
theorem al_wait (A : Option Addr) (c : Nat) (W : World) (hr : Hid (Reads W W.heap.size 1 A 4 (bv fourL))) : Calls Try.prog 129 #[.slice A 4 c, .int .u64 4, .int .i64 1] W fun e w' => e = .returned (.tuple #[.int .i64 3, .int .i64 0]) ∧ Below W.heap.size W w' := by
  have h := sliceWait_any A 4 c 4 fourL 1 W hr.out (by omega) (by omega)
  rwa [show waitS fourL 4 1 = (3, 0) from by decide] at h
theorem al_same (A A' : Option Addr) (c c' : Nat) (W W' : World) (hr : Hid (Reads W W.heap.size 1 A 6 (bv sixL))) (hb : Below W.heap.size W W') (hr' : Hid (Reads W' W'.heap.size 1 A' 6 (bv sixL))) :
    Calls Try.prog 85 #[.agg #[.int .i64 3, .int .i64 2, .slice A 6 c], .agg #[.int .i64 3, .int .i64 2, .slice A' 6 c']] W' fun e w' => e = .returned (.bool true) ∧ Below W.heap.size W w' := by
  refine (same_yes 3 2 A A' 6 c c' sixL W' ((hr.out.below hb).more hb.size) hr'.out).mono ?_
  rintro e w' ⟨rfl, hb'⟩
  exact ⟨rfl, hb.trans (hb'.mono hb.size)⟩

end Go.Proofs.Ytcbghchciplfcaa
