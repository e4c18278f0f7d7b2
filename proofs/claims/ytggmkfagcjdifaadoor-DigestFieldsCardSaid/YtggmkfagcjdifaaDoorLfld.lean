/- Facts of the program over abstract values. No condition. -/
import Derived.Test.YtggmkfagcjdifaaDoorFp
import Derived.Test.YtggmkfagcjdifaaDoorEm
set_option linter.unusedSimpArgs false
set_option maxRecDepth 8000
namespace Go.Proofs.YtggmkfagcjdifaaDoor
set_option linter.unusedSimpArgs false
set_option linter.unusedVariables false
set_option linter.unnecessarySimpa false
set_option linter.unusedSectionVars false
open Go.Proofs.Tryd
open Go.Proofs.YtggmkfagcjdifaaDoor.Ai
set_option maxHeartbeats 4000000
set_option linter.unusedVariables false
open Go.Proofs.YtggmkfagcjdifaaDoor.Sh hiding mixed

theorem c71b : prog.cellsOf 71 = 2 := by kernel_rfl
theorem c26b : prog.cellsOf 26 = 1 := by kernel_rfl
theorem y71b : prog.bytesOf 71 = 16 := by kernel_rfl
theorem wf_u64 {n : Int} (h : (Lit.int .u64 n).wf = true) : 0 ≤ n ∧ n < 18446744073709551616 := by
  simp [Lit.wf] at h
  have e1 : IntKind.u64.min = 0 := rfl
  have e2 : IntKind.u64.max = 18446744073709551615 := rfl
  omega
theorem wf_i64 {n : Int} (h : (Lit.int .i64 n).wf = true) : -9223372036854775808 ≤ n ∧ n ≤ 9223372036854775807 := by
  simp [Lit.wf] at h
  have e1 : IntKind.i64.min = -9223372036854775808 := rfl
  have e2 : IntKind.i64.max = 9223372036854775807 := rfl
  omega
theorem field_dat {x : List AV} (h : Dat prog 71 x) : ∃ f : Nat × UInt8, x = fc f ∧ f.1 < 18446744073709551616 := by
  obtain ⟨hl, hx⟩ := h.parts_inv (l := [(0, 26), (1, 5)]) (by kernel_rfl)
  rw [c71b] at hl
  match x, hl with
  | [x0, x1], _ =>
    have h0 := hx 0 _ _ rfl; have h1 := hx 1 _ _ rfl
    simp only [c26b, c5b, List.drop_succ_cons, List.drop_zero, List.take_succ_cons, List.take_zero] at h0 h1
    obtain ⟨n, e, hw⟩ := h0.int_inv underlying26
    obtain ⟨b, e1⟩ := u8_dat h1
    have := wf_u64 hw
    simp only [List.cons.injEq, and_true] at e e1
    subst e e1
    refine ⟨(n.toNat, b), ?_, by simp only; omega⟩
    simp only [fc, List.cons.injEq, and_true, AV.int.injEq, true_and]
    omega
theorem fields_dat : ∀ {es : List (List AV)}, (∀ x ∈ es, Dat prog 71 x) → ∃ l : List (Nat × UInt8), es = l.map fc ∧ ∀ f ∈ l, f.1 < 18446744073709551616
  | [], _ => ⟨[], rfl, by simp⟩
  | x :: es, h => by
    obtain ⟨l, rfl, h2⟩ := fields_dat (es := es) fun y hy => h y (List.mem_cons_of_mem _ hy)
    obtain ⟨f, rfl, hf⟩ := field_dat (h x List.mem_cons_self)
    exact ⟨f :: l, rfl, fun p hp => (List.mem_cons.1 hp).elim (fun e => e ▸ hf) (h2 p)⟩
theorem digestFields_pcall (x0 : AV) (a1 : Int) (d0 : Dat prog 67 [x0]) (w1 : (Lit.int .i64 a1).wf = true) : PCall prog 8 [x0, .int .i64 a1] (.bool true) := by
  obtain ⟨es, e0, hl, _, hx⟩ := d0.slice_inv (e := 71) (by kernel_rfl)
  obtain ⟨l, rfl, hf⟩ := fields_dat hx
  simp only [List.cons.injEq, and_true] at e0
  subst e0
  rw [y71b] at hl
  rw [c71b]
  have := reach47
  exact law8 l a1 (wf_i64 w1) (by simp only [List.length_map] at hl; omega) hf
end Go.Proofs.YtggmkfagcjdifaaDoor
