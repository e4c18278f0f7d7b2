/-
  What the operations give, the model gives: the pure ones, third part. Plain facts, no condition.
-/
import Derived.Test.YtffiicopifmmfaaAiF
namespace Go.Proofs.Ytffiicopifmmfaa.Ai
set_option linter.unusedSimpArgs false
set_option linter.unusedVariables false
set_option linter.unnecessarySimpa false
set_option linter.unusedSectionVars false
set_option linter.unusedVariables false

section
variable {F : Nat → Prop} {w : World} {p : Place} {D : Nat → Prop} {e : Env} {rows : Rows} {P : Program} {k : Nat}

/-- Operands of an operation: as the environment says. -/
def OpsOK (F : Nat → Prop) (w : World) (p : Place) (D : Nat → Prop) (e : Env) (ρ : Operand → Value) (xs : List Operand) : Prop :=
  ∀ x ∈ xs, ∀ y, opd x = some y → VR F w p D (ev e y) (ρ x)

theorem fa_sound (hs : SRel F w p D rows) {v : AV} {u : Value} (hv : VR F w p D v u) {s : TypeId} {fs : Array Field} {fl : Field} {f n : Nat} (hu : P.underlying s = some (.struct fs)) (hf : fs[f]? = some fl)
    (hn : sizeAt P fl.type = some n) (h0 : n ≠ 0)
    (hc : faC fl.offset v) :
    ∃ u', (Instr.fieldAt s u f).run P w = .ok u' w ∧ VR F w p D (faV fl.offset v) u' := by
  have run : ∀ b o, (Instr.fieldAt s (.pointer (some ⟨b, o, none⟩)) f).run P w = .ok (.pointer (some ⟨b, o + fl.offset, none⟩)) w := by
    intro b o
    simp only [Instr.fieldAt, Sem.run_bind, run_underlying hu, Result.andThen_ok, hf, Instr.sureAddr, Sem.run_pure, fieldPlace, run_sizeAt hn, if_neg h0, add_none]
  cases hv with
  | rop cs b o c t fz hb hF hr hh =>
    refine ⟨_, run b o, .rop _ b (o + fl.offset) c t fz hb hF (by simp only [faC] at hc; simp; omega) fun j x hj => ?_⟩
    rw [List.getElem?_drop] at hj
    rw [Nat.add_assoc]
    exact hh _ x hj
  | pt id q i o hid =>
    exact ⟨_, run _ _, by rw [Nat.add_assoc]; exact .pt id q i (o + fl.offset) hid⟩
  | _ => exact hc.elim

/-- A part of an aggregate's cells. -/
theorem part_sound {cs : List AV} {us : Array Value} (h : CellsOK F w p D cs us) {t : TypeId} {off sz : Nat} {g : Bool} (hg : isAggT P t = some g) (hz : sizeAt P t = some sz) (h1 : g = true ∨ sz = 1)
    (ho : off + sz ≤ cs.length) : ∃ u', (part t us off).run P w = .ok u' w ∧ VR F w p D (partV g off sz cs) u' := by
  unfold partV
  cases g with
  | true =>
    refine ⟨.agg (us.extract off (off + sz)), by simp only [part, Sem.run_bind, run_isAgg hg, Result.andThen_ok, if_true, run_sizeAt hz, Sem.run_pure], ?_⟩
    simp only [cond_true]
    refine .agg _ _ (by have := h.1; simp; omega) fun j x hj => ?_
    rw [List.getElem?_take, List.getElem?_drop] at hj
    split at hj
    · rename_i hlt
      have := h.2 _ x hj
      have hus := h.1
      simp only [Array.getD_eq_getD_getElem?] at this ⊢
      rw [Array.getElem?_extract_of_lt (by omega)]
      rwa [Array.getElem?_eq_getElem (by omega)] at this
    · cases hj
  | false =>
    have h1 : sz = 1 := h1.resolve_left (by simp)
    subst h1
    have hlt : off < us.size := by have := h.1; omega
    refine ⟨us[off], by simp [part, run_isAgg hg, hlt], ?_⟩
    simp only [cond_false]
    have hx : cs[off]? = some ((cs.drop off).headD .any) := by
      rw [List.headD_eq_head?_getD, List.head?_drop, List.getElem?_eq_getElem (by omega)]; simp
    have := h.2 off _ hx
    simpa [hlt] using this

theorem ias_sound (hs : SRel F w p D rows) {v iv : AV} {u iu : Value} (hv : VR F w p D v u) (hi : VR F w p D iv iu) {t el : TypeId} {sz : Nat} (hu : P.underlying t = some (.slice el)) (hz : sizeAt P el = some sz)
    (hc : iasC sz v iv) :
    ∃ u', (Instr.indexAt t u iu).run P w = .ok u' w ∧ VR F w p D (iasV v iv) u' := by
  have run : ∀ a (len cap : Nat) kk (n : Int), 0 ≤ n → n < len → (Instr.indexAt t (.slice (some a) len cap) (.int kk n)).run P w = .ok (.pointer (some (a.add (n.toNat * sz)))) w := by
    intro a len cap kk n h0 h1
    simp [Instr.indexAt, asIntOf, run_underlying hu, h0, h1, run_sizeAt hz]
  cases hi with
  | int kk n =>
    cases hv with
    | ros q es b o cap c ty fz hb hF hcap hsz hr hh =>
      obtain ⟨rfl, h0, h1⟩ := hc
      have hlt : n.toNat < es.length := by omega
      have hmul : (n.toNat + 1) * q ≤ es.length * q := Nat.mul_le_mul_right _ hlt
      have hmul' : (n.toNat + 1) * q = n.toNat * q + q := by rw [Nat.add_mul, Nat.one_mul]
      have hx : es[n.toNat]? = some (es.getD n.toNat []) := by simp [List.getElem?_eq_getElem hlt]
      have hlen : (es.getD n.toNat []).length = q := hsz _ (List.mem_of_getElem? hx)
      refine ⟨_, run _ _ _ _ _ h0 h1, ?_⟩
      rw [add_none]
      exact .rop _ b _ c ty fz hb hF (by omega) fun j x hj => hh _ _ j x hx hj
    | sl id q j m kc a cap hid hn hk' ha =>
      obtain ⟨rfl, h0, h1⟩ := hc
      rcases ha with ha | ⟨c, ty, fz, rfl, hb, hr⟩
      · omega
      · exact ⟨_, run _ _ _ _ _ h0 h1, by rw [add_none, Nat.add_assoc, ← Nat.add_mul]; exact .pt id q (j + n.toNat) 0 hid⟩
    | rosNil q =>
      obtain ⟨rfl, h0, h1⟩ := hc
      simp at h1; omega
    | rosEmp q =>
      obtain ⟨rfl, h0, h1⟩ := hc
      simp at h1; omega
    | _ => exact hc.elim
  | _ => cases v <;> exact hc.elim

theorem iaa_sound (hs : SRel F w p D rows) {v iv : AV} {u iu : Value} (hv : VR F w p D v u) (hi : VR F w p D iv iu) {t el : TypeId} {sz len : Nat} (hu : P.underlying t = some (.array len el)) (hz : sizeAt P el = some sz)
    (hc : iaaC len sz v iv) :
    ∃ u', (Instr.indexAt t u iu).run P w = .ok u' w ∧ VR F w p D (iaaV sz v iv) u' := by
  have run : ∀ a kk (n : Int), 0 ≤ n → n < len → (Instr.indexAt t (.pointer (some a)) (.int kk n)).run P w = .ok (.pointer (some (a.add (n.toNat * sz)))) w := by
    intro a kk n h0 h1
    simp [Instr.indexAt, asIntOf, run_underlying hu, h0, h1, run_sizeAt hz, Instr.sureAddr]
  cases hi with
  | int kk n =>
    cases hv with
    | rop cs b o c ty fz hb hF hr hh =>
      obtain ⟨h0, h1, h2⟩ := hc
      refine ⟨_, run _ _ _ h0 h1, ?_⟩
      rw [add_none]
      refine .rop _ b _ c ty fz hb hF (by simp; omega) fun j x hj => ?_
      rw [List.getElem?_drop] at hj
      rw [Nat.add_assoc]
      exact hh _ x hj
    | pt id q j o hid =>
      obtain ⟨h0, h1⟩ := hc
      exact ⟨_, run _ _ _ h0 h1, by rw [add_none, Nat.add_assoc]; exact .pt id q j (o + n.toNat * sz) hid⟩
    | _ => exact hc.elim
  | _ => cases v <;> exact hc.elim

theorem bin_sound {x y : AV} {u v : Value} {op : BinOp} {t : TypeId} (hx : VR F w p D x u) (hy : VR F w p D y v) (hc : binC op x y) :
    ∃ r, (binOp op t u v).run P w = .ok r w ∧ VR F w p D (binV op x y) r ∧ (∀ c, u ≠ .agg c) ∧ u ≠ .nilIface := by
  cases hx with
  | int k a =>
    cases hy with
    | int k' b =>
      simp only [binC] at hc
      refine ⟨?_, ?_, ?_, by simp, by simp⟩
      case refine_1 => exact match intV op k a b with | .int k n => .int k n | .bool b => .bool b | _ => undef
      · cases op <;> simp only [intC] at hc <;> first
          | (obtain ⟨rfl, hb⟩ := hc; simp [binOp, Op.intDiv, intV, hb])
          | (subst hc; simp [binOp, Op.intArith, Op.intBits, Op.intCmp, intV, bits2])
          | (simp [binOp, Op.shift, intV, Int.not_lt.2 hc])
      · simp only [binV]
        cases op <;> first | exact VR.int _ _ | exact VR.bool _
    | _ => exact hc.elim
  | str a =>
    cases hy with
    | str b =>
      simp only [binC] at hc
      cases op <;> simp only [strC] at hc <;> first
        | exact hc.elim
        | exact ⟨_, by simp [binOp, Op.stringOp], .bool _, by simp, by simp⟩
        | exact ⟨_, by simp only [binOp, Op.stringOp]; rw [if_neg (by omega)]; rfl, .str _, by simp, by simp⟩
    | _ => exact hc.elim
  | _ => cases y <;> exact hc.elim

theorem equal_at (t : TypeId) (x y : Value) : Op.equal t x y = Op.equalIn (9999 + 1) t x y := rfl
theorem equalIn_bool (d : Nat) {t : TypeId} (hu : P.underlying t = some .bool) (a b : Bool) : (Op.equalIn (d + 1) t (.bool a) (.bool b)).run P w = .ok (a == b) w := by
  simp [Op.equalIn, run_underlying hu]
theorem equalIn_nil (d : Nat) {t el : TypeId} (hu : P.underlying t = some (.slice el)) (a : Option Addr) (n c : Nat) : (Op.equalIn (d + 1) t (.slice a n c) (.slice none 0 0)).run P w = .ok a.isNone w := by
  cases a <;> simp [Op.equalIn, run_underlying hu]

theorem eqb_sound {a b : Bool} {t : TypeId} {neg : Bool} (hu : P.underlying t = some .bool) :
    (binOp (bif neg then .neq else .eql) t (.bool a) (.bool b)).run P w = .ok (.bool (bif neg then !(a == b) else (a == b))) w := by
  have := equalIn_bool (P := P) (w := w) 9999 hu a b
  cases neg <;> simp only [cond_true, cond_false, binOp, equal_at, Sem.run_bind, this, Result.andThen_ok, Sem.run_pure]

theorem eqn_sound {t el : TypeId} {neg : Bool} (hu : P.underlying t = some (.slice el)) {v : AV} {u : Value} (hv : VR F w p D v u) (hc : nilC v) :
    (binOp (bif neg then .neq else .eql) t u (.slice none 0 0)).run P w = .ok (.bool (bif neg then !(nilV v) else nilV v)) w ∧ (∀ c, u ≠ .agg c) ∧ u ≠ .nilIface := by
  have no : ∀ a n c, (binOp (bif neg then .neq else .eql) t (.slice a n c) (.slice none 0 0)).run P w = .ok (.bool (bif neg then !(a.isNone) else a.isNone)) w := by
    intro a n c
    have := equalIn_nil (P := P) (w := w) 9999 hu a n c
    cases neg <;> simp only [cond_true, cond_false, binOp, equal_at, Sem.run_bind, this, Result.andThen_ok, Sem.run_pure]
  cases hv with
  | nils => exact ⟨no _ _ _, by simp, by simp⟩
  | rosNil q => exact absurd rfl hc
  | rosEmp q => exact absurd rfl hc
  | ros => exact ⟨no _ _ _, by simp, by simp⟩
  | roe => exact ⟨no _ _ _, by simp, by simp⟩
  | sl id q i n kc a cap hid hn hk ha =>
    have : cap ≠ 0 := by
      rintro rfl
      simp only [nilC] at hc
      rcases hc with h | ⟨m, h⟩
      · omega
      · have := hk _ h; omega
    obtain ⟨c, ty, fz, rfl, _⟩ := ha.resolve_left this
    exact ⟨no _ _ _, by simp, by simp⟩
  | _ => exact hc.elim

theorem len_sound {t el : TypeId} (hu : P.underlying t = some (.slice el)) {ty : TypeId} {ts : Array TypeId} (ht : ts[0]? = some t) {v : AV} {u : Value} (hv : VR F w p D v u) (hc : lenC v) :
    (Builtin.len_ ts ty #[u]).run P w = .ok (.int .i64 (lenV v)) w := by
  cases hv with
  | nils => simp [Builtin.len_, ht, run_underlying hu, lenV, goInt]
  | rosNil q => simp [Builtin.len_, ht, run_underlying hu, lenV, goInt]
  | rosEmp q => simp [Builtin.len_, ht, run_underlying hu, lenV, goInt]
  | ros => simp [Builtin.len_, ht, run_underlying hu, lenV, goInt]
  | roe => simp [Builtin.len_, ht, run_underlying hu, lenV, goInt]
  | sl => simp [Builtin.len_, ht, run_underlying hu, lenV, goInt]
  | _ => exact hc.elim
end
end Go.Proofs.Ytffiicopifmmfaa.Ai
