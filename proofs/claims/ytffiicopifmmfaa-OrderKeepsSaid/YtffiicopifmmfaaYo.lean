/- Facts of the program over abstract values. No condition. -/
import Derived.Test.YtffiicopifmmfaaZe
import Derived.Test.YtffiicopifmmfaaAiT
set_option linter.unusedSimpArgs false
set_option linter.unusedVariables false
set_option maxRecDepth 8000
namespace Go.Proofs.Ytffiicopifmmfaa
set_option linter.unusedSimpArgs false
set_option linter.unusedVariables false
set_option linter.unnecessarySimpa false
set_option linter.unusedSectionVars false
open Go.Proofs.Try
open Go.Proofs.Ytffiicopifmmfaa.Ai
set_option maxHeartbeats 4000000

/-! Teams and books, opened -/
theorem c3b : prog.cellsOf 3 = 1 := by kernel_rfl
theorem c5b : prog.cellsOf 5 = 1 := by kernel_rfl
theorem c22b : prog.cellsOf 22 = 1 := by kernel_rfl
theorem c43b : prog.cellsOf 43 = 1 := by kernel_rfl
theorem c44b : prog.cellsOf 44 = 1 := by kernel_rfl
theorem c24b : prog.cellsOf 24 = 6 := by kernel_rfl
theorem c31b : prog.cellsOf 31 = 2 := by kernel_rfl
theorem y3b : prog.bytesOf 3 = 8 := by kernel_rfl
theorem y24b : prog.bytesOf 24 = 48 := by kernel_rfl
theorem reach44 : reachBytes < 2 ^ 47 := by decide
theorem ints_dat : ∀ {es : List (List AV)}, (∀ x ∈ es, Dat prog 3 x) → ∃ ts : List Int, es = ts.map intc
  | [], _ => ⟨[], rfl⟩
  | x :: es, h => by
    obtain ⟨ts, rfl⟩ := ints_dat (es := es) fun y hy => h y (List.mem_cons_of_mem _ hy)
    obtain ⟨n, rfl, hw⟩ := (h x List.mem_cons_self).int_inv underlying3
    exact ⟨n :: ts, rfl⟩
theorem intsl_dat {xs : List AV} (h : Dat prog 43 xs) : ∃ l : List Int, xs = [intsV l] ∧ l.length < 2 ^ 44 := by
  obtain ⟨es, rfl, hl, _, hx⟩ := h.slice_inv (e := 3) (by kernel_rfl)
  obtain ⟨ts, rfl⟩ := ints_dat hx
  rw [y3b] at hl
  have := reach44
  exact ⟨ts, by rw [c3b], by simp only [List.length_map] at hl; omega⟩
theorem six_b {α : Type} {cs : List α} (h : cs.length = 6) : ∃ a b c d e f, cs = [a, b, c, d, e, f] := by
  match cs, h with
  | [a, b, c, d, e, f], _ => exact ⟨a, b, c, d, e, f, rfl⟩
theorem ord_dat {xs : List AV} (h : Dat prog 24 xs) : ∃ o : O, xs = oc o := by
  obtain ⟨hl, hx⟩ := h.parts_inv (l := [(0, 3), (1, 3), (2, 3), (3, 5), (4, 22), (5, 22)]) (by kernel_rfl)
  rw [c24b] at hl
  obtain ⟨x0, x1, x2, x3, x4, x5, rfl⟩ := six_b hl
  have h0 := hx 0 _ _ rfl; have h1 := hx 1 _ _ rfl; have h2 := hx 2 _ _ rfl
  have h3 := hx 3 _ _ rfl; have h4 := hx 4 _ _ rfl; have h5 := hx 5 _ _ rfl
  simp only [c3b, c5b, c22b, List.drop_succ_cons, List.drop_zero, List.take_succ_cons, List.take_zero] at h0 h1 h2 h3 h4 h5
  obtain ⟨n0, e0, _⟩ := h0.int_inv underlying3
  obtain ⟨n1, e1, _⟩ := h1.int_inv underlying3
  obtain ⟨n2, e2, _⟩ := h2.int_inv underlying3
  obtain ⟨n3, e3, _⟩ := h3.int_inv underlying5
  obtain ⟨n4, e4, _⟩ := h4.int_inv underlying22
  obtain ⟨n5, e5, _⟩ := h5.int_inv underlying22
  simp only [List.cons.injEq, and_true] at e0 e1 e2 e3 e4 e5
  subst e0 e1 e2 e3 e4 e5
  exact ⟨⟨n0, n1, n2, n3, n4, n5⟩, rfl⟩
theorem ords_dat : ∀ {es : List (List AV)}, (∀ x ∈ es, Dat prog 24 x) → ∃ os : List O, es = os.map oc
  | [], _ => ⟨[], rfl⟩
  | x :: es, h => by
    obtain ⟨os, rfl⟩ := ords_dat (es := es) fun y hy => h y (List.mem_cons_of_mem _ hy)
    obtain ⟨o, rfl⟩ := ord_dat (h x List.mem_cons_self)
    exact ⟨o :: os, rfl⟩
theorem ordsl_dat {xs : List AV} (h : Dat prog 44 xs) : ∃ l : List O, xs = [ordsV l] ∧ l.length < 2 ^ 44 := by
  obtain ⟨es, rfl, hl, _, hx⟩ := h.slice_inv (e := 24) (by kernel_rfl)
  obtain ⟨ts, rfl⟩ := ords_dat hx
  rw [y24b] at hl
  have := reach44
  exact ⟨ts, by rw [c24b], by simp only [List.length_map] at hl; omega⟩
theorem c52b : prog.cellsOf 52 = 8 := by kernel_rfl
theorem c46b : prog.cellsOf 46 = 4 := by kernel_rfl
theorem eight_b {α : Type} {cs : List α} (h : cs.length = 8) : ∃ a b c d e f g i, cs = [a, b, c, d, e, f, g, i] := by
  match cs, h with
  | [a, b, c, d, e, f, g, i], _ => exact ⟨a, b, c, d, e, f, g, i, rfl⟩
theorem four_b {α : Type} {cs : List α} (h : cs.length = 4) : ∃ a b c d, cs = [a, b, c, d] := by
  match cs, h with
  | [a, b, c, d], _ => exact ⟨a, b, c, d, rfl⟩
theorem two_b {α : Type} {cs : List α} (h : cs.length = 2) : ∃ a b, cs = [a, b] := by
  match cs, h with
  | [a, b], _ => exact ⟨a, b, rfl⟩
theorem team_dat {xs : List AV} (h : Dat prog 52 xs) : ∃ m : Tm, xs = tmc m ∧ m.h.length < 2 ^ 44 ∧ m.p.length < 2 ^ 44 ∧ m.d.length < 2 ^ 44 := by
  obtain ⟨hl, hx⟩ := h.parts_inv (l := [(0, 43), (1, 43), (2, 43), (3, 3), (4, 3), (5, 3), (6, 3), (7, 3)]) (by kernel_rfl)
  rw [c52b] at hl
  obtain ⟨x0, x1, x2, x3, x4, x5, x6, x7, rfl⟩ := eight_b hl
  have h0 := hx 0 _ _ rfl; have h1 := hx 1 _ _ rfl; have h2 := hx 2 _ _ rfl; have h3 := hx 3 _ _ rfl
  have h4 := hx 4 _ _ rfl; have h5 := hx 5 _ _ rfl; have h6 := hx 6 _ _ rfl; have h7 := hx 7 _ _ rfl
  simp only [c3b, c43b, List.drop_succ_cons, List.drop_zero, List.take_succ_cons, List.take_zero] at h0 h1 h2 h3 h4 h5 h6 h7
  obtain ⟨l0, e0, k0⟩ := intsl_dat h0
  obtain ⟨l1, e1, k1⟩ := intsl_dat h1
  obtain ⟨l2, e2, k2⟩ := intsl_dat h2
  obtain ⟨n3, e3, _⟩ := h3.int_inv underlying3
  obtain ⟨n4, e4, _⟩ := h4.int_inv underlying3
  obtain ⟨n5, e5, _⟩ := h5.int_inv underlying3
  obtain ⟨n6, e6, _⟩ := h6.int_inv underlying3
  obtain ⟨n7, e7, _⟩ := h7.int_inv underlying3
  simp only [List.cons.injEq, and_true] at e0 e1 e2 e3 e4 e5 e6 e7
  subst e0 e1 e2 e3 e4 e5 e6 e7
  exact ⟨⟨l0, l1, l2, n3, n4, n5, n6, n7⟩, rfl, k0, k1, k2⟩
theorem count_datb {xs : List AV} (h : Dat prog 31 xs) : ∃ cw cm, xs = [.int .u64 cw, .int .i64 cm] := by
  obtain ⟨hl, hx⟩ := h.parts_inv (l := [(0, 22), (1, 3)]) (by kernel_rfl)
  rw [c31b] at hl
  obtain ⟨x0, x1, rfl⟩ := two_b hl
  have h0 := hx 0 _ _ rfl; have h1 := hx 1 _ _ rfl
  simp only [c3b, c22b, List.drop_succ_cons, List.drop_zero, List.take_succ_cons, List.take_zero] at h0 h1
  obtain ⟨n0, e0, _⟩ := h0.int_inv underlying22
  obtain ⟨n1, e1, _⟩ := h1.int_inv underlying3
  simp only [List.cons.injEq, and_true] at e0 e1
  subst e0 e1
  exact ⟨n0, n1, rfl⟩
theorem book_dat {xs : List AV} (h : Dat prog 46 xs) : ∃ b : Bk, xs = bkc b ∧ b.os.length < 2 ^ 44 ∧ b.q.length < 2 ^ 44 := by
  obtain ⟨hl, hx⟩ := h.parts_inv (l := [(0, 44), (1, 43), (2, 31)]) (by kernel_rfl)
  rw [c46b] at hl
  obtain ⟨x0, x1, x2, x3, rfl⟩ := four_b hl
  have h0 := hx 0 _ _ rfl; have h1 := hx 1 _ _ rfl; have h2 := hx 2 _ _ rfl
  simp only [c44b, c43b, c31b, List.drop_succ_cons, List.drop_zero, List.take_succ_cons, List.take_zero] at h0 h1 h2
  obtain ⟨l0, e0, k0⟩ := ordsl_dat h0
  obtain ⟨l1, e1, k1⟩ := intsl_dat h1
  obtain ⟨cw, cm, e2⟩ := count_datb h2
  simp only [List.cons.injEq, and_true] at e0 e1 e2
  obtain ⟨e2, e3⟩ := e2
  subst e0 e1 e2 e3
  exact ⟨⟨l0, l1, cw, cm⟩, rfl, k0, k1⟩
theorem fit_dat {xs ys : List AV} (h : Dat prog 52 xs) (g : Dat prog 46 ys) : ∃ (b : Bk) (m : Tm), xs = tmc m ∧ ys = bkc b ∧ Fit b m := by
  obtain ⟨m, rfl, h1, h2, h3⟩ := team_dat h
  obtain ⟨b, rfl, h4, h5⟩ := book_dat g
  exact ⟨b, m, rfl, rfl, ⟨h2, h3, h1, h4, h5⟩⟩
end Go.Proofs.Ytffiicopifmmfaa
