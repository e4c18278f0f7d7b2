/- Facts of the program over abstract values. No condition. -/
import Derived.Test.YtggmkfagcjdifaaDoorDe
import Derived.Test.YtggmkfagcjdifaaDoorAiT
set_option linter.unusedSimpArgs false
set_option maxRecDepth 8000
namespace Go.Proofs.YtggmkfagcjdifaaDoor
set_option linter.unusedSimpArgs false
set_option linter.unusedVariables false
set_option linter.unnecessarySimpa false
set_option linter.unusedSectionVars false
open Go.Proofs.Tryd
open Go.Proofs.YtggmkfagcjdifaaDoor.Ai
set_option maxHeartbeats 4000000
set_option linter.unusedVariables false
open Go.Proofs.YtggmkfagcjdifaaDoor.Sh hiding mixed

theorem reach47 : reachBytes < 2 ^ 48 := by decide +kernel
theorem wf_u8 {n : Int} (h : (Lit.int .u8 n).wf = true) : 0 ≤ n ∧ n < 256 := by
  simp [Lit.wf] at h
  have e1 : IntKind.u8.min = 0 := rfl
  have e2 : IntKind.u8.max = 255 := rfl
  omega
theorem c5b : prog.cellsOf 5 = 1 := by kernel_rfl
theorem c39b : prog.cellsOf 39 = 1 := by kernel_rfl
theorem y5b : prog.bytesOf 5 = 1 := by kernel_rfl
theorem u8_dat {x : List AV} (h : Dat prog 5 x) : ∃ b : UInt8, x = b1 b := by
  obtain ⟨n, rfl, hw⟩ := h.int_inv underlying5
  have := wf_u8 hw
  refine ⟨UInt8.ofNat n.toNat, ?_⟩
  simp only [b1, UInt8.toNat_ofNat']
  congr 2; omega
theorem u8s_dat : ∀ {es : List (List AV)}, (∀ x ∈ es, Dat prog 5 x) → ∃ l : List UInt8, es = l.map b1
  | [], _ => ⟨[], rfl⟩
  | x :: es, h => by
    obtain ⟨l, rfl⟩ := u8s_dat (es := es) fun y hy => h y (List.mem_cons_of_mem _ hy)
    obtain ⟨b, rfl⟩ := u8_dat (h x List.mem_cons_self)
    exact ⟨b :: l, rfl⟩
theorem bytes_dat {xs : List AV} (h : Dat prog 22 xs) : ∃ l : List UInt8, xs = [bsV l] ∧ l.length < 2 ^ 48 := by
  obtain ⟨es, rfl, hl, _, hx⟩ := h.slice_inv (e := 5) (by kernel_rfl)
  obtain ⟨l, rfl⟩ := u8s_dat hx
  rw [y5b] at hl
  have := reach47
  exact ⟨l, by rw [c5b], by simp only [List.length_map] at hl; omega⟩
theorem arr_dat {t : TypeId} {n : Nat} (hp : Ai.parts prog t = some ((List.range n).map fun i => (i, 5))) (hc : prog.cellsOf t = n) {xs : List AV} (h : Dat prog t xs) : ∃ l : List UInt8, xs = l.map u8c ∧ l.length = n := by
  obtain ⟨hl, hx⟩ := h.parts_inv hp
  rw [hc] at hl
  have key : ∀ k, k ≤ n → ∃ l : List UInt8, xs.take k = l.map u8c ∧ l.length = k := by
    intro k hk
    induction k with
    | zero => exact ⟨[], rfl, rfl⟩
    | succ k ih =>
      obtain ⟨l, h1, h2⟩ := ih (by omega)
      have h3 := hx k k 5 (by rw [List.getElem?_map, List.getElem?_range (show k < n from hk)]; rfl)
      rw [c5b] at h3
      obtain ⟨b, hb⟩ := u8_dat h3
      have hkx : k < xs.length := by rw [hl]; omega
      obtain ⟨y, hy⟩ := lt_get hkx
      rw [drop_at hy] at hb
      simp at hb
      refine ⟨l ++ [b], ?_, by simp [h2]⟩
      rw [List.take_add_one, h1, hy, hb]; simp
  obtain ⟨l, h1, h2⟩ := key n (Nat.le_refl _)
  rw [List.take_of_length_le (l := xs) (i := n) (by omega)] at h1
  exact ⟨l, h1, h2⟩
theorem wf_u32 {n : Int} (h : (Lit.int .u32 n).wf = true) : 0 ≤ n ∧ n < 4294967296 := by
  simp [Lit.wf] at h
  have e1 : IntKind.u32.min = 0 := rfl
  have e2 : IntKind.u32.max = 4294967295 := rfl
  omega
theorem eight_b {α : Type} {cs : List α} (h : cs.length = 8) : ∃ a b c d e f g i, cs = [a, b, c, d, e, f, g, i] := by
  match cs, h with
  | [a, b, c, d, e, f, g, i], _ => exact ⟨a, b, c, d, e, f, g, i, rfl⟩
theorem u32_dat {x : AV} (h : Dat prog 39 [x]) : ∃ n : Nat, x = u32 n ∧ n < 4294967296 := by
  obtain ⟨n, e, hw⟩ := h.int_inv underlying39
  have := wf_u32 hw
  simp only [List.cons.injEq, and_true] at e
  refine ⟨n.toNat, ?_, by omega⟩
  rw [e]; simp only [u32]; congr 1; omega
theorem st_dat {xs : List AV} (h : Dat prog 40 xs) : ∃ s : Sh.St, xs = stc s ∧ s.ok := by
  obtain ⟨hl, hx⟩ := h.parts_inv (l := [(0, 39), (1, 39), (2, 39), (3, 39), (4, 39), (5, 39), (6, 39), (7, 39)]) (by kernel_rfl)
  obtain ⟨x0, x1, x2, x3, x4, x5, x6, x7, rfl⟩ := eight_b (hl.trans (show prog.cellsOf 40 = 8 by kernel_rfl))
  have h0 := hx 0 _ _ rfl; have h1 := hx 1 _ _ rfl; have h2 := hx 2 _ _ rfl; have h3 := hx 3 _ _ rfl
  have h4 := hx 4 _ _ rfl; have h5 := hx 5 _ _ rfl; have h6 := hx 6 _ _ rfl; have h7 := hx 7 _ _ rfl
  simp only [c39b, List.drop_succ_cons, List.drop_zero, List.take_succ_cons, List.take_zero] at h0 h1 h2 h3 h4 h5 h6 h7
  obtain ⟨n0, rfl, l0⟩ := u32_dat h0
  obtain ⟨n1, rfl, l1⟩ := u32_dat h1
  obtain ⟨n2, rfl, l2⟩ := u32_dat h2
  obtain ⟨n3, rfl, l3⟩ := u32_dat h3
  obtain ⟨n4, rfl, l4⟩ := u32_dat h4
  obtain ⟨n5, rfl, l5⟩ := u32_dat h5
  obtain ⟨n6, rfl, l6⟩ := u32_dat h6
  obtain ⟨n7, rfl, l7⟩ := u32_dat h7
  exact ⟨⟨n0, n1, n2, n3, n4, n5, n6, n7⟩, rfl, ⟨l0, l1, l2, l3, l4, l5, l6, l7⟩⟩
end Go.Proofs.YtggmkfagcjdifaaDoor
