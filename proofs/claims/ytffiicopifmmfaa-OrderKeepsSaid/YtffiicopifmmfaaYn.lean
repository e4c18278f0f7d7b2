/- Facts of the program over abstract values. No condition. -/
import Derived.Test.YtffiicopifmmfaaYl
import Derived.Test.YtffiicopifmmfaaYo
set_option linter.unusedSimpArgs false
set_option linter.unusedVariables false
set_option maxRecDepth 8000
namespace Go.Proofs.Ytffiicopifmmfaa
set_option linter.unusedSimpArgs false
set_option linter.unusedVariables false
set_option linter.unnecessarySimpa false
set_option linter.unusedSectionVars false
open Go.Proofs.Try
open Go.Proofs.Ytffiicopifmmfaa.Ai
set_option maxHeartbeats 4000000

/-! Calls, opened -/
theorem c38b : prog.cellsOf 38 = 5 := by kernel_rfl
theorem y38b : prog.bytesOf 38 = 40 := by kernel_rfl
theorem five_b {α : Type} {cs : List α} (h : cs.length = 5) : ∃ a b c d e, cs = [a, b, c, d, e] := by
  match cs, h with
  | [a, b, c, d, e], _ => exact ⟨a, b, c, d, e, rfl⟩
theorem u8_pos {n : Int} (h : (Lit.int .u8 n).wf = true) : 0 ≤ n := by
  simp only [Lit.wf, Bool.and_eq_true, decide_eq_true_eq] at h; have h2 : IntKind.u8.min = 0 := rfl; omega
theorem u64_pos {n : Int} (h : (Lit.int .u64 n).wf = true) : 0 ≤ n := by
  simp only [Lit.wf, Bool.and_eq_true, decide_eq_true_eq] at h; have h2 : IntKind.u64.min = 0 := rfl; omega
theorem call_dat {xs : List AV} (h : Dat prog 38 xs) : ∃ x : Cc, xs = clc x ∧ 0 ≤ x.dv ∧ 0 ≤ x.now := by
  obtain ⟨hl, hx⟩ := h.parts_inv (l := [(0, 5), (1, 3), (2, 3), (3, 3), (4, 22)]) (by kernel_rfl)
  rw [c38b] at hl
  obtain ⟨x0, x1, x2, x3, x4, rfl⟩ := five_b hl
  have h0 := hx 0 _ _ rfl; have h1 := hx 1 _ _ rfl; have h2 := hx 2 _ _ rfl
  have h3 := hx 3 _ _ rfl; have h4 := hx 4 _ _ rfl
  simp only [c3b, c5b, c22b, List.drop_succ_cons, List.drop_zero, List.take_succ_cons, List.take_zero] at h0 h1 h2 h3 h4
  obtain ⟨n0, e0, w0⟩ := h0.int_inv underlying5
  obtain ⟨n1, e1, _⟩ := h1.int_inv underlying3
  obtain ⟨n2, e2, _⟩ := h2.int_inv underlying3
  obtain ⟨n3, e3, _⟩ := h3.int_inv underlying3
  obtain ⟨n4, e4, w4⟩ := h4.int_inv underlying22
  simp only [List.cons.injEq, and_true] at e0 e1 e2 e3 e4
  subst e0 e1 e2 e3 e4
  exact ⟨⟨n0, n1, n2, n3, n4⟩, rfl, u8_pos w0, u64_pos w4⟩
theorem calls_dat : ∀ {es : List (List AV)}, (∀ x ∈ es, Dat prog 38 x) → ∃ xs : List Cc, es = xs.map clc ∧ okCalls xs
  | [], _ => ⟨[], rfl, nofun⟩
  | x :: es, h => by
    obtain ⟨xs, rfl, h1⟩ := calls_dat (es := es) fun y hy => h y (List.mem_cons_of_mem _ hy)
    obtain ⟨c, rfl, h2⟩ := call_dat (h x List.mem_cons_self)
    refine ⟨c :: xs, rfl, fun y hy => ?_⟩
    rcases List.mem_cons.1 hy with rfl | hy
    · exact h2
    · exact h1 y hy
theorem script_dat {x : AV} (h : Dat prog 41 [x]) : ∃ l : List Cc, x = .ros 5 (l.map clc) ∧ okCalls l ∧ l.length < 2 ^ 40 * 2 ^ 3 := by
  obtain ⟨es, he, hl, _, hx⟩ := h.slice_inv (e := 38) (by kernel_rfl)
  obtain ⟨xs, rfl, hc⟩ := calls_dat hx
  rw [y38b] at hl
  rw [c38b] at he
  simp only [List.cons.injEq, and_true] at he
  have := reach44
  exact ⟨xs, he, hc, by simp only [List.length_map] at hl; omega⟩
theorem tfit_dat {xs : List AV} (h : Dat prog 52 xs) : ∃ m : Tm, xs = tmc m ∧ Tfit m := by
  obtain ⟨m, rfl, h1, h2, h3⟩ := team_dat h
  exact ⟨m, rfl, ⟨h2, h3, h1⟩⟩
end Go.Proofs.Ytffiicopifmmfaa
