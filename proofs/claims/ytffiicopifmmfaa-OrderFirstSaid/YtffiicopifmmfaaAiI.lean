/-
  What the operations give, the model gives: the pure ones, fifth part. Plain facts, no condition.
-/
import Derived.Test.YtffiicopifmmfaaAiH
import Derived.IntWalk
set_option linter.unusedSimpArgs false
namespace Go.Proofs.Ytffiicopifmmfaa.Ai
set_option linter.unusedSimpArgs false
set_option linter.unusedVariables false
set_option linter.unnecessarySimpa false
set_option linter.unusedSectionVars false
set_option linter.unusedVariables false

section
variable {F : Nat → Prop} {w : World} {p : Place} {D : Nat → Prop} {e : Env} {rows : Rows} {P : Program} {k : Nat}

theorem rep_cells {z : List AV} {zs : Array Value} (h : CellsOK F w p D z zs) {sz n : Nat} (hz : z.length = sz) :
    CellsOK F w p D (List.replicate n z).flatten ((Array.range (n * sz)).map (zs[· % zs.size]!)) := by
  have hr : ∀ x ∈ List.replicate n z, x.length = sz := fun x hx => by rw [(List.mem_replicate.1 hx).2]; exact hz
  obtain ⟨f1, f2⟩ := flat_get hr
  rw [List.length_replicate] at f1
  refine ⟨by simp [f1], fun m v hm => ?_⟩
  have hlt : m < n * sz := by rw [← f1]; exact (List.getElem?_eq_some_iff.1 hm).1
  have hs : 0 < sz := by rcases Nat.eq_zero_or_pos sz with h0 | h0; (subst h0; simp at hlt); exact h0
  have hi : m / sz < n := (Nat.div_lt_iff_lt_mul hs).2 hlt
  have hj : m % sz < sz := Nat.mod_lt _ hs
  have hx : (List.replicate n z)[m / sz]? = some z := by simp [hi]
  have hv : z[m % sz]? = some v := by
    have hzj : z[m % sz]? = some (z[m % sz]'(by omega)) := List.getElem?_eq_getElem _
    have := f2 (m / sz) z (m % sz) _ hx hzj
    rw [show m / sz * sz + m % sz = m by rw [Nat.mul_comm]; exact Nat.div_add_mod m sz, hm] at this
    rw [hzj, this]
  have := h.2 _ v hv
  have hzs : zs.size = sz := h.1.trans hz
  simpa [hlt, hzs, hj] using this

theorem run_zeroIf {t : TypeId} {z : List AV} (h : zeroOf P t = some z) (n sz : Nat) : ∃ zs : Array Value, ((n * sz = 0 ∧ zs = #[]) ∨ (¬ n * sz = 0 ∧ ∃ v, (zeroValue t).run P w = .ok v w ∧ zs = v.cells)) ∧
    (n * sz = 0 ∨ CellsOK F w p D z zs) := by
  by_cases h0 : n * sz = 0
  · exact ⟨_, .inl ⟨h0, rfl⟩, .inl h0⟩
  · obtain ⟨v, h1, h2⟩ := run_zero h w
    obtain ⟨h3, h4⟩ := vr_list (F := F) (w := w) (p := p) (D := D) h2
    exact ⟨_, .inr ⟨h0, v, h1, rfl⟩, .inr ⟨h3, h4⟩⟩

theorem rep_cells' {z : List AV} {zs : Array Value} {sz n : Nat} (h : n * sz = 0 ∨ CellsOK F w p D z zs) (hz : z.length = sz) :
    CellsOK F w p D (List.replicate n z).flatten ((Array.range (n * sz)).map (zs[· % zs.size]!)) := by
  rcases h with h | h
  · have hr : ∀ x ∈ List.replicate n z, x.length = sz := fun x hx => by rw [(List.mem_replicate.1 hx).2]; exact hz
    obtain ⟨f1, f2⟩ := flat_get hr
    rw [List.length_replicate, h] at f1
    rw [h, List.eq_nil_of_length_eq_zero f1]
    exact ⟨by simp, fun j v hj => by simp at hj⟩
  · exact rep_cells h hz

theorem bslice_sound (hs : SRel F w p D rows) (hk : ¬ D k) {t el : TypeId} {sz n : Nat} {z : List AV} (hu : P.underlying t = some (.slice el)) (hsz : sizeAt P el = some sz) (hzo : zeroOf P el = some z)
    {ρ : Operand → Value} {ps : List (Nat × Operand)} {qs : List (Nat × Opd)} (hx : ∀ x ∈ ps, ∀ y, opd x.2 = some y → VR F w p D (ev e y) (ρ x.2))
    (hl : qs.length = ps.length) (hq : ∀ (j : Nat) (x : Nat × Operand), ps[j]? = some x → ∃ y, qs[j]? = some (x.1, y) ∧ opd x.2 = some y)
    (hz : z.length = sz) (hb : n * sz ≤ 2 ^ 24) (hc : elemsC e sz n qs) :
    ∃ u w', (Instr.buildSlice t n ((ps.map fun x => (x.1, ρ x.2)).toArray)).run P w = .ok u w' ∧ PRes F w p D k w' u (some ⟨sz, elemsV e (List.replicate n z) qs⟩) (.sl k sz 0 n (some n)) := by
  obtain ⟨zs, h1, h2⟩ := run_zeroIf (F := F) (w := w) (p := p) (D := D) hzo n sz
  have h3 := rep_cells' h2 hz
  obtain ⟨us, h4, h5, h6, h7⟩ := elems_fill (e := e) z sz n ps qs (List.replicate n z) _ (by simp) (fun x hx => by rw [(List.mem_replicate.1 hx).2]; exact hz) h3 hx hl hq hc
  obtain ⟨f1, f2⟩ := flat_get h6
  have hus : us.size = n * sz := by rw [h7.1, f1, h5]
  refine ⟨_, _, ?_, PRes.row hs hk el h6 (by rw [h5, hus]; exact Nat.le_refl _) (fun i x j v hxx hj => h7.2 _ v (f2 i x j v hxx hj)) (Grow.alloc w (.cells us el)) (heap_alloc w _) (.inl (Nat.le_refl _)) (Nat.le_refl _) (by rw [hus]; exact Nat.le_refl _) (fun m hm => by cases hm; rfl)⟩
  have hnot : ¬ n * sz > 2 ^ 24 := by omega
  rcases h1 with ⟨h0, rfl⟩ | ⟨h0, v, h1, rfl⟩
  · simp only [Instr.buildSlice, Sem.run_bind, run_underlying hu, Result.andThen_ok, run_sizeAt hsz, if_neg hnot, if_pos h0, Sem.run_pure, h4, newRow, run_newObj]; rfl
  · simp only [Instr.buildSlice, Sem.run_bind, run_underlying hu, Result.andThen_ok, run_sizeAt hsz, if_neg hnot, if_neg h0, Sem.run_pure, h1, h4, newRow, run_newObj]; rfl

theorem mks_sound (hs : SRel F w p D rows) (hk : ¬ D k) {t el : TypeId} {i : TypeInfo} {z : List AV} (hu : P.underlying t = some (.slice el)) (hi : P.info? el = some i) (hzo : zeroOf P el = some z)
    {x y : AV} {u v : Value} (hx : VR F w p D x u) (hy : VR F w p D y v) (hz : z.length = i.size) (hc : mksC i.bytes x y) :
    ∃ r w', (Instr.makeSlice t u v).run P w = .ok r w' ∧ PRes F w p D k w' r (some ⟨i.size, List.replicate (intOr y).toNat z⟩) (.sl k i.size 0 (intOr x).toNat (some (intOr y).toNat)) := by
  cases hx with
  | int k1 a =>
    cases hy with
    | int k2 b =>
      obtain ⟨h0, hab, hby, hb63⟩ := hc
      have wr : ∀ n : Int, 0 ≤ n → n < 2 ^ 63 → IntKind.i64.wrap n = n := by
        intro n h1 h2
        exact IntWalk.i64_in n (by omega)
      have ha : IntKind.i64.wrap a = a := wr a h0 (by omega)
      have hb : IntKind.i64.wrap b = b := wr b (by omega) hb63
      have hsz : sizeAt P el = some i.size := by simp [sizeAt, hi]
      obtain ⟨zs, h1, h2⟩ := run_zeroIf (F := F) (w := w) (p := p) (D := D) hzo b.toNat i.size
      have h3 := rep_cells' h2 hz
      have hr : ∀ x ∈ List.replicate b.toNat z, x.length = i.size := fun x hx => by rw [(List.mem_replicate.1 hx).2]; exact hz
      obtain ⟨f1, f2⟩ := flat_get hr
      rw [List.length_replicate] at f1
      simp only [intOr]
      refine ⟨_, _, ?_, PRes.row hs hk el hr (by rw [List.length_replicate, h3.1, f1]; exact Nat.le_refl _) (fun i x j v hxx hj => h3.2 _ v (f2 i x j v hxx hj)) (Grow.alloc w (.cells _ el)) (heap_alloc w _) (.inl (Nat.le_refl _)) (n := a.toNat) (cap := b.toNat) (by omega) (by rw [h3.1, f1]; exact Nat.le_refl _) (fun m hm => by cases hm; rfl)⟩
      have hcomm : (i.bytes : Int) * b = b * i.bytes := Int.mul_comm _ _
      have hbig : (decide (b < 0) || decide ((i.bytes : Int) * b > 2 ^ 48)) = false := by
        simp only [Bool.or_eq_false_iff, decide_eq_false_iff_not]; omega
      have hcond : (((decide (b < 0) || decide ((i.bytes : Int) * b > 2 ^ 48)) = true ∨ a < 0) ∨ a > b) = False := by
        rw [hbig]; simp; omega
      have hroom : ¬ b.toNat * i.bytes > roomBytes := by
        have : ((b.toNat * i.bytes : Nat) : Int) = b * i.bytes := by rw [Int.natCast_mul, Int.toNat_of_nonneg (by omega)]
        unfold roomBytes; omega
      simp only [Instr.makeSlice, Sem.run_bind, run_underlying hu, Result.andThen_ok, asInt, asIntOf, Sem.run_pure, run_typeInfo hi, ha, hb]
      simp only [Bool.or_eq_true, decide_eq_true_eq, askRoom, if_neg hroom, Sem.run_bind, Sem.run_pure, Result.andThen_ok, run_sizeAt hsz]
      rw [if_neg (by omega)]
      rcases h1 with ⟨h0, rfl⟩ | ⟨h0, v, h1, rfl⟩
      · simp only [Sem.run_pure, Result.andThen_ok, Sem.run_bind, if_neg hroom, run_sizeAt hsz, if_pos h0, newRow, run_newObj]; rfl
      · simp only [Sem.run_pure, Result.andThen_ok, Sem.run_bind, if_neg hroom, run_sizeAt hsz, if_neg h0, h1, newRow, run_newObj]; rfl
    | _ => exact hc.elim
  | _ => cases y <;> exact hc.elim

theorem slc_sound (hs : SRel F w p D rows) {t el : TypeId} {sz : Nat} (hu : P.underlying t = some (.slice el)) (hsz : sizeAt P el = some sz) {v : AV} {u : Value} (hv : VR F w p D v u)
    {lo hi : Option Value} {a b : AV} (hlo : (lo = none ∧ a = .int .i64 0) ∨ ∃ x, lo = some x ∧ VR F w p D a x) (hhi : (hi = none ∧ b = .int .i64 (lenV v)) ∨ ∃ x, hi = some x ∧ VR F w p D b x)
    (hl : lenC v) (hq : slcSz sz v) (hc : sliceC (lenV v).toNat a b) :
    ∃ r, (Instr.sliceAt t u lo hi none).run P w = .ok r w ∧ VR F w p D (sliceV v (intOr a).toNat (intOr b).toNat) r := by
  obtain ⟨k1, l, rfl⟩ : ∃ k1 l, a = .int k1 l := by cases a <;> first | exact ⟨_, _, rfl⟩ | exact hc.elim
  obtain ⟨k2, h, rfl⟩ : ∃ k2 h, b = .int k2 h := by cases b <;> first | exact ⟨_, _, rfl⟩ | exact hc.elim
  obtain ⟨h0, h1, h2⟩ := hc
  simp only [intOr]
  have run : ∀ (ad : Option Addr) (n cap : Nat), (n : Int) = lenV v → n ≤ cap → (Instr.sliceAt t (.slice ad n cap) lo hi none).run P w = .ok (.slice (if cap = l.toNat then ad else ad.map (·.add (l.toNat * sz))) (h.toNat - l.toNat) (cap - l.toNat)) w := by
    intro ad n cap hn hcap
    have hlow : lo = none ∧ l = 0 ∨ ∃ kk, lo = some (.int kk l) := by
      rcases hlo with ⟨e1, e2⟩ | ⟨x, e1, e2⟩
      · cases e2; exact .inl ⟨e1, rfl⟩
      · cases e2; exact .inr ⟨_, e1⟩
    have hhigh : hi = none ∧ h = lenV v ∨ ∃ kk, hi = some (.int kk h) := by
      rcases hhi with ⟨e1, e2⟩ | ⟨x, e1, e2⟩
      · cases e2; exact .inl ⟨e1, rfl⟩
      · cases e2; exact .inr ⟨_, e1⟩
    have hlh : 0 ≤ l ∧ l ≤ h.toNat := by omega
    have hhc : 0 ≤ h ∧ h ≤ cap := by omega
    simp only [Instr.sliceAt, Sem.run_bind, run_underlying hu, Result.andThen_ok, Instr.slice, Instr.sliceBounds]
    rcases hhigh with ⟨rfl, e2⟩ | ⟨kk, rfl⟩
    · have hnh : n = h.toNat := by omega
      rcases hlow with ⟨rfl, e1⟩ | ⟨kl, rfl⟩
      · subst e1
        simp [Sem.run_bind, run_sizeAt hsz, hnh]
      · simp [Sem.run_bind, run_sizeAt hsz, hnh, Instr.sliceBound, asIntOf, hlh]
        intro hm; exfalso; omega
    · rcases hlow with ⟨rfl, e1⟩ | ⟨kl, rfl⟩
      · subst e1
        simp [Sem.run_bind, run_sizeAt hsz, Instr.sliceBound, asIntOf, hhc]
      · simp [Sem.run_bind, run_sizeAt hsz, Instr.sliceBound, asIntOf, hhc, hlh]
        intro hm; exfalso; omega
  cases hv with
  | nils =>
    simp only [lenV] at h2 run
    obtain rfl : l = 0 := by omega
    obtain rfl : h = 0 := by omega
    exact ⟨_, run none 0 0 rfl (Nat.le_refl _), by simpa [sliceV] using (VR.nils (F := F) (w := w) (p := p) (D := D))⟩
  | roe q ad cap =>
    simp only [lenV] at h2 run
    obtain rfl : l = 0 := by omega
    obtain rfl : h = 0 := by omega
    refine ⟨_, run (some ad) 0 cap rfl (Nat.zero_le _), ?_⟩
    simp only [sliceV]
    by_cases hc0 : cap = 0
    · simpa [hc0] using VR.roe q ad 0
    · simp only [Int.toNat_zero, Nat.zero_mul, if_neg hc0, Option.map_some]
      exact .roe q _ _
  | rosNil q =>
    simp only [lenV] at h2 run
    obtain rfl : l = 0 := by simp at h2; omega
    obtain rfl : h = 0 := by simp at h2; omega
    exact ⟨_, run none 0 0 (by simp) (Nat.le_refl _), by simpa [sliceV] using VR.rosNil (F := F) (w := w) (p := p) (D := D) q⟩
  | rosEmp q ad cap =>
    simp only [lenV] at h2 run
    obtain rfl : l = 0 := by simp at h2; omega
    obtain rfl : h = 0 := by simp at h2; omega
    refine ⟨_, run (some ad) 0 cap (by simp) (Nat.zero_le _), ?_⟩
    simp only [sliceV]
    by_cases hc0 : cap = 0
    · simpa [hc0] using VR.rosEmp (F := F) (w := w) (p := p) (D := D) q ad 0
    · simp only [Int.toNat_zero, Nat.zero_mul, if_neg hc0, Option.map_some]
      simpa using VR.rosEmp (F := F) (w := w) (p := p) (D := D) q (ad.add 0) cap
  | ros q es b o cap c ty fz hb hF hcap hszs hr hh =>
    simp only [lenV] at h2 run
    obtain rfl : q = sz := hq
    refine ⟨_, run (some ⟨b, o, none⟩) es.length cap rfl hcap, ?_⟩
    have hlen : ((es.drop l.toNat).take (h.toNat - l.toNat)).length = h.toNat - l.toNat := by simp; omega
    simp only [sliceV]
    have key : ∀ o', (∃ d : Nat, o' = o + l.toNat * q ∨ (h.toNat - l.toNat = 0 ∧ o' = o)) → VR F w p D (.ros q ((es.drop l.toNat).take (h.toNat - l.toNat))) (.slice (some ⟨b, o', none⟩) (h.toNat - l.toNat) (cap - l.toNat)) := by
      intro o' ho'
      obtain ⟨_, ho'⟩ := ho'
      have hm1 : (l.toNat + (h.toNat - l.toNat)) * q ≤ es.length * q := Nat.mul_le_mul_right _ (by omega)
      rw [Nat.add_mul] at hm1
      have := VR.ros q ((es.drop l.toNat).take (h.toNat - l.toNat)) b o' (cap - l.toNat) c ty fz hb hF (F := F) (w := w) (p := p) (D := D) (by rw [hlen]; omega)
        (fun x hx => hszs x (List.mem_of_mem_drop (List.mem_of_mem_take hx)))
        (by
          rw [hlen]
          rcases ho' with rfl | ⟨e1, rfl⟩
          · omega
          · rw [e1]; omega)
        (fun i x j v hx hj => by
          rw [List.getElem?_take, List.getElem?_drop] at hx
          split at hx
          · rename_i hi
            rcases ho' with rfl | ⟨e1, rfl⟩
            · have := hh _ x j v hx hj
              rwa [Nat.add_mul, ← Nat.add_assoc] at this
            · omega
          · cases hx)
      rwa [hlen] at this
    by_cases hcl : cap = l.toNat
    · rw [if_pos hcl]; exact key o ⟨0, .inr ⟨by omega, rfl⟩⟩
    · rw [if_neg hcl, Option.map_some, add_none]; exact key _ ⟨0, .inl rfl⟩
  | sl id q i n kc ad cap hid hn hk ha =>
    simp only [lenV] at h2 run
    obtain rfl : q = sz := hq
    refine ⟨_, run ad n cap rfl hn, ?_⟩
    simp only [sliceV]
    refine .sl id q (i + l.toNat) _ _ _ (cap - l.toNat) hid (by omega) ?_ ?_
    · intro m hm
      cases kc with
      | none => simp at hm
      | some m' => simp at hm; have := hk m' rfl; omega
    · by_cases hcl : cap = l.toNat
      · left; omega
      · right
        obtain ⟨c, ty, fz, rfl, e2, e3⟩ := ha.resolve_left (by omega)
        refine ⟨c, ty, fz, ?_, e2, ?_⟩
        · rw [if_neg hcl, Option.map_some, add_none, Nat.add_mul, Nat.add_assoc]
        · rwa [show i + l.toNat + (cap - l.toNat) = i + cap by omega]
  | _ => exact hl.elim
end
end Go.Proofs.Ytffiicopifmmfaa.Ai
