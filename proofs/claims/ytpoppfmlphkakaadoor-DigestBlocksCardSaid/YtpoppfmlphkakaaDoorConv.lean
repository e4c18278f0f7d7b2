/-
  STRINGS AND BYTES: '[]byte(s)' as a step of the walk.
-/
import Derived.Test.YtpoppfmlphkakaaDoorWords
import Derived.Lib.ConvBytes
namespace Go.Proofs.YtpoppfmlphkakaaDoor
set_option linter.unusedVariables false
set_option linter.unusedSimpArgs false
set_option maxRecDepth 100000
open Go.RowKit

/-- '[]byte(s)' makes a new row of the string's bytes. -/
theorem bytes_of {P : Program} (w : World) (src dst e : TypeId) (l : List UInt8) (hs : P.underlying src = some .string) (hd : P.underlying dst = some (.slice e)) (he : P.underlying e = some (.int .u8)) :
    ∃ W c, (convert src dst (.string ⟨l.toArray⟩)).run P w = .ok (.slice (some ⟨w.heap.size, 0, none⟩) l.length c) W ∧ Reads W W.heap.size 1 (some ⟨w.heap.size, 0, none⟩) l.length (bv l) ∧ Below w.heap.size w W := by
  refine ⟨Lib.bytesWorld w e ⟨l.toArray⟩, grownCap w l.length 0 e, ?_, ⟨by simp, fun hn => ⟨_, rfl, ?_, fun j u hu => ?_⟩⟩, ?_⟩
  · have h := Lib.run_convert_string_bytes (P := P) w src dst e ⟨l.toArray⟩ hs hd he
    exact h
  · rw [Lib.bytesWorld_size]; exact Nat.lt_succ_self _
  · obtain ⟨b, hb, rfl⟩ := bv_at hu
    have hj : j < l.length := (List.getElem?_eq_some_iff.1 hb).1
    rw [add_zero_off, Lib.bytesWorld_cell w e ⟨l.toArray⟩ j (show j < l.toArray.size by simpa using hj)]
    simp [u8v, List.getD, hb]
  · exact ⟨rfl, rfl, rfl, by rw [Lib.bytesWorld_size]; exact Nat.le_succ _, fun i hi => Lib.bytesWorld_at_old w e _ i hi⟩

theorem wpList_bytes_of {P : Program} {w : World} {ops : Array Oper} {rest : List Oper} {o : Oper} {a : Act} {Q : Exit → Act → World → Prop} (hgd : o.guard = none) (src dst e : TypeId) (x : Operand) (ho : o.op = .convert src dst x)
    (l : List UInt8) (hx : a.eval x = .string ⟨l.toArray⟩) (hs : P.underlying src = some .string) (hd : P.underlying dst = some (.slice e)) (he : P.underlying e = some (.int .u8))
    (h : ∀ W c, Reads W W.heap.size 1 (some ⟨w.heap.size, 0, none⟩) l.length (bv l) → Below w.heap.size w W → wpList P ops Q rest (a.put o.dst (.slice (some ⟨w.heap.size, 0, none⟩) l.length c)) W) : wpList P ops Q (o :: rest) a w :=
  wpList_plain hgd fun K hK => by
    obtain ⟨W, c, h1, h2, h3⟩ := bytes_of (P := P) w src dst e l hs hd he
    unfold Oper.wp execOp
    simp only [ho, hx, Sem.run_bind, h1, Result.andThen_ok, Sem.run_pure]
    exact hK _ _ (h W c h2 h3)
end Go.Proofs.YtpoppfmlphkakaaDoor
