/- Facts of the program over abstract values. No condition. -/
import Derived.Test.YtggmkfagcjdifaaDoorDa
set_option maxRecDepth 8000
namespace Go.Proofs.YtggmkfagcjdifaaDoor
set_option linter.unusedSimpArgs false
set_option linter.unusedVariables false
set_option linter.unnecessarySimpa false
set_option linter.unusedSectionVars false
open Go.Proofs.Tryd
open Go.Proofs.YtggmkfagcjdifaaDoor.Ai
set_option maxHeartbeats 4000000
set_option linter.unusedVariables false
open Go.Proofs.YtggmkfagcjdifaaDoor.Sh hiding mixed

def stc (s : Sh.St) : List AV := [u32 s.a, u32 s.b, u32 s.c, u32 s.d, u32 s.e, u32 s.f, u32 s.g, u32 s.h]
theorem mix_s (s : Sh.St) (hs : s.ok) (k w : Nat) (hk : k < 4294967296) (hw : w < 4294967296) (nx : Nat) (R : Ai.Rows) (hR : ∀ q ∈ R, Ai.look R q.1 = some q.2 ∧ q.1 ≠ 0 ∧ q.1 < nx + 1 ∧ ∀ x ∈ q.2.es, ∀ v ∈ x, Bel (nx + 1) v) :
    SCall prog 47 [u32 k, u32 w, .pt 0 8 0 0] ⟨nx + 1, (0, ⟨8, [stc s]⟩) :: R⟩ (.ret (.tup [])) ⟨nx + 1, (0, ⟨8, [stc (s.step k w)]⟩) :: R⟩ := by
  obtain ⟨a, b, c, d, e, f, g, h⟩ := s
  obtain ⟨ha, hb, hc, hd, he, hf, hg, hh⟩ := hs
  simp only at ha hb hc hd he hf hg hh
  have c6 := rotate_p e 6 he (by omega) (by omega)
  have c11 := rotate_p e 11 he (by omega) (by omega)
  have c25 := rotate_p e 25 he (by omega) (by omega)
  have c2 := rotate_p a 2 ha (by omega) (by omega)
  have c13 := rotate_p a 13 ha (by omega) (by omega)
  have c22 := rotate_p a 22 ha (by omega) (by omega)
  have f1 := big1_bits he
  have f0 := big0_bits ha
  have f2 := ch_bits he hf hg
  have f3 := maj_bits ha hb hc
  simp only [stc, St.step]
  clear he hf hg ha hb hc hd hh
  obtain ⟨c, hb, hl⟩ := l47
  refine scall_of mixed e47 hb rfl hl r47 (by rw [n47]; simp) ?_
  clear hb hl c
  (try simp only [push_cast, Int.reduceAdd, Nat.zero_lt_succ, Nat.reduceAdd, Nat.reduceBEq, Nat.reduceLeDiff, Int.reduceLE, Int.reduceLT, Int.reduceToNat])
  repeat' ((((((apply sc_p; (case h => first | exact c6 | exact c11 | exact c25 | exact c2 | exact c13 | exact c22); (case hc => ((simp only [push_cast] <;> fail "n")))))) <;> (try simp only [push_cast, Nat.zero_lt_succ, Nat.reduceAdd, Nat.reduceBEq, Nat.reduceLeDiff, *, bnotV]))))
  all_goals refine ⟨[], Wk.to (by omega) (by simp <;> fail "n") (by simp <;> fail "n") ?_, trivial, rfl⟩
  intro q hq
  rcases List.mem_cons.1 hq with rfl | hq
  · refine ⟨?_, by simp, by simp [push_cast]⟩
    simp only [look_cons, if_true]
    simp only [u32, show (if IntKind.u32.signed = true then (-1 : Int) else IntKind.u32.max) = IntKind.u32.max from rfl, f2]
    simp only [Option.some.injEq, Row.mk.injEq, List.cons.injEq, AV.int.injEq, true_and, and_true, IntKind.wrap_u32]
    refine ⟨by omega, by omega⟩
  · obtain ⟨h1, h2, h3⟩ := hR q hq
    exact ⟨by rw [look_cons, if_neg (by omega)]; exact h1, h3⟩
end Go.Proofs.YtggmkfagcjdifaaDoor
