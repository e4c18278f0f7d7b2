/-
  What the operations give, the model gives: the pure ones, fifth part. Plain facts, no condition.
-/
import Derived.Test.YtggmkfagcjdifaaDoorAiH
import Derived.IntWalk
import Derived.Laws.IdiomStrings
set_option linter.unusedSimpArgs false
namespace Go.Proofs.YtggmkfagcjdifaaDoor.Ai
set_option linter.unusedSimpArgs false
set_option linter.unusedVariables false
set_option linter.unnecessarySimpa false
set_option linter.unusedSectionVars false
set_option linter.unusedVariables false

section
variable {F : Nat → Prop} {w : World} {p : Place} {D : Nat → Prop} {e : Env} {rows : Rows} {P : Program} {k : Nat}

theorem rep_cells {z : List AV} {zs : Array Value} (h : CellsOK F w p D z zs) {sz n : Nat} (hz : z.length = sz) :
    CellsOK F w p D (List.replicate n z).flatten ((Array.range (n * sz)).map (zs[· % zs.size]!)) := by
  have hr : ∀ x ∈ List.replicate n z, x.length = sz := fun x hx => by rw [(List.mem_replicate.1 hx).2]; exact hz
  obtain ⟨f1, f2⟩ := flat_get hr
  rw [List.length_replicate] at f1
  refine ⟨by simp [f1], fun m v hm => ?_⟩
  have hlt : m < n * sz := by rw [← f1]; exact (List.getElem?_eq_some_iff.1 hm).1
  have hs : 0 < sz := by rcases Nat.eq_zero_or_pos sz with h0 | h0; (subst h0; simp at hlt); exact h0
  have hi : m / sz < n := (Nat.div_lt_iff_lt_mul hs).2 hlt
  have hj : m % sz < sz := Nat.mod_lt _ hs
  have hx : (List.replicate n z)[m / sz]? = some z := by simp [hi]
  have hv : z[m % sz]? = some v := by
    have hzj : z[m % sz]? = some (z[m % sz]'(by omega)) := List.getElem?_eq_getElem _
    have := f2 (m / sz) z (m % sz) _ hx hzj
    rw [show m / sz * sz + m % sz = m by rw [Nat.mul_comm]; exact Nat.div_add_mod m sz, hm] at this
    rw [hzj, this]
  have := h.2 _ v hv
  have hzs : zs.size = sz := h.1.trans hz
  simpa [hlt, hzs, hj] using this

theorem run_zeroIf {t : TypeId} {z : List AV} (h : zeroOf P t = some z) (n sz : Nat) : ∃ zs : Array Value, ((n * sz = 0 ∧ zs = #[]) ∨ (¬ n * sz = 0 ∧ ∃ v, (zeroValue t).run P w = .ok v w ∧ zs = v.cells)) ∧
    (n * sz = 0 ∨ CellsOK F w p D z zs) := by
  by_cases h0 : n * sz = 0
  · exact ⟨_, .inl ⟨h0, rfl⟩, .inl h0⟩
  · obtain ⟨v, h1, h2⟩ := run_zero h w
    obtain ⟨h3, h4⟩ := vr_list (F := F) (w := w) (p := p) (D := D) h2
    exact ⟨_, .inr ⟨h0, v, h1, rfl⟩, .inr ⟨h3, h4⟩⟩

theorem rep_cells' {z : List AV} {zs : Array Value} {sz n : Nat} (h : n * sz = 0 ∨ CellsOK F w p D z zs) (hz : z.length = sz) :
    CellsOK F w p D (List.replicate n z).flatten ((Array.range (n * sz)).map (zs[· % zs.size]!)) := by
  rcases h with h | h
  · have hr : ∀ x ∈ List.replicate n z, x.length = sz := fun x hx => by rw [(List.mem_replicate.1 hx).2]; exact hz
    obtain ⟨f1, f2⟩ := flat_get hr
    rw [List.length_replicate, h] at f1
    rw [h, List.eq_nil_of_length_eq_zero f1]
    exact ⟨by simp, fun j v hj => by simp at hj⟩
  · exact rep_cells h hz

theorem bslice_sound (hs : SRel F w p D rows) (hk : ¬ D k) {t el : TypeId} {sz n : Nat} {z : List AV} (hu : P.underlying t = some (.slice el)) (hsz : sizeAt P el = some sz) (hzo : zeroOf P el = some z)
    {ρ : Operand → Value} {ps : List (Nat × Operand)} {qs : List (Nat × Opd)} (hx : ∀ x ∈ ps, ∀ y, opd x.2 = some y → VR F w p D (ev e y) (ρ x.2))
    (hl : qs.length = ps.length) (hq : ∀ (j : Nat) (x : Nat × Operand), ps[j]? = some x → ∃ y, qs[j]? = some (x.1, y) ∧ opd x.2 = some y)
    (hz : z.length = sz) (hb : n * sz ≤ 2 ^ 24) (hc : elemsC e sz n qs) :
    ∃ u w', (Instr.buildSlice t n ((ps.map fun x => (x.1, ρ x.2)).toArray)).run P w = .ok u w' ∧ PRes F w p D k w' u (some ⟨sz, elemsV e (List.replicate n z) qs⟩) (.sl k sz 0 n (some n)) := by
  obtain ⟨zs, h1, h2⟩ := run_zeroIf (F := F) (w := w) (p := p) (D := D) hzo n sz
  have h3 := rep_cells' h2 hz
  obtain ⟨us, h4, h5, h6, h7⟩ := elems_fill (e := e) z sz n ps qs (List.replicate n z) _ (by simp) (fun x hx => by rw [(List.mem_replicate.1 hx).2]; exact hz) h3 hx hl hq hc
  obtain ⟨f1, f2⟩ := flat_get h6
  have hus : us.size = n * sz := by rw [h7.1, f1, h5]
  refine ⟨_, _, ?_, PRes.row hs hk el h6 (by rw [h5, hus]; exact Nat.le_refl _) (fun i x j v hxx hj => h7.2 _ v (f2 i x j v hxx hj)) (Grow.alloc w (.cells us el)) (heap_alloc w _) (.inl (Nat.le_refl _)) (Nat.le_refl _) (by rw [hus]; exact Nat.le_refl _) (fun m hm => by cases hm; rfl)⟩
  have hnot : ¬ n * sz > 2 ^ 24 := by omega
  rcases h1 with ⟨h0, rfl⟩ | ⟨h0, v, h1, rfl⟩
  · simp only [Instr.buildSlice, Sem.run_bind, run_underlying hu, Result.andThen_ok, run_sizeAt hsz, if_neg hnot, if_pos h0, Sem.run_pure, h4, newRow, run_newObj]; rfl
  · simp only [Instr.buildSlice, Sem.run_bind, run_underlying hu, Result.andThen_ok, run_sizeAt hsz, if_neg hnot, if_neg h0, Sem.run_pure, h1, h4, newRow, run_newObj]; rfl

theorem mks_sound (hs : SRel F w p D rows) (hk : ¬ D k) {t el : TypeId} {i : TypeInfo} {z : List AV} (hu : P.underlying t = some (.slice el)) (hi : P.info? el = some i) (hzo : zeroOf P el = some z)
    {x y : AV} {u v : Value} (hx : VR F w p D x u) (hy : VR F w p D y v) (hz : z.length = i.size) (hc : mksC i.bytes x y) :
    ∃ r w', (Instr.makeSlice t u v).run P w = .ok r w' ∧ PRes F w p D k w' r (some ⟨i.size, List.replicate (intOr y).toNat z⟩) (.sl k i.size 0 (intOr x).toNat (some (intOr y).toNat)) := by
  cases hx with
  | int k1 a =>
    cases hy with
    | int k2 b =>
      obtain ⟨h0, hab, hby, hb63⟩ := hc
      have wr : ∀ n : Int, 0 ≤ n → n < 2 ^ 63 → IntKind.i64.wrap n = n := by
        intro n h1 h2
        exact IntWalk.i64_in n (by omega)
      have ha : IntKind.i64.wrap a = a := wr a h0 (by omega)
      have hb : IntKind.i64.wrap b = b := wr b (by omega) hb63
      have hsz : sizeAt P el = some i.size := by simp [sizeAt, hi]
      obtain ⟨zs, h1, h2⟩ := run_zeroIf (F := F) (w := w) (p := p) (D := D) hzo b.toNat i.size
      have h3 := rep_cells' h2 hz
      have hr : ∀ x ∈ List.replicate b.toNat z, x.length = i.size := fun x hx => by rw [(List.mem_replicate.1 hx).2]; exact hz
      obtain ⟨f1, f2⟩ := flat_get hr
      rw [List.length_replicate] at f1
      simp only [intOr]
      refine ⟨_, _, ?_, PRes.row hs hk el hr (by rw [List.length_replicate, h3.1, f1]; exact Nat.le_refl _) (fun i x j v hxx hj => h3.2 _ v (f2 i x j v hxx hj)) (Grow.alloc w (.cells _ el)) (heap_alloc w _) (.inl (Nat.le_refl _)) (n := a.toNat) (cap := b.toNat) (by omega) (by rw [h3.1, f1]; exact Nat.le_refl _) (fun m hm => by cases hm; rfl)⟩
      have hcomm : (i.bytes : Int) * b = b * i.bytes := Int.mul_comm _ _
      have hbig : (decide (b < 0) || decide ((i.bytes : Int) * b > 2 ^ 48)) = false := by
        simp only [Bool.or_eq_false_iff, decide_eq_false_iff_not]; omega
      have hcond : (((decide (b < 0) || decide ((i.bytes : Int) * b > 2 ^ 48)) = true ∨ a < 0) ∨ a > b) = False := by
        rw [hbig]; simp; omega
      have hroom : ¬ b.toNat * i.bytes > roomBytes := by
        have : ((b.toNat * i.bytes : Nat) : Int) = b * i.bytes := by rw [Int.natCast_mul, Int.toNat_of_nonneg (by omega)]
        unfold roomBytes; omega
      simp only [Instr.makeSlice, Sem.run_bind, run_underlying hu, Result.andThen_ok, asInt, asIntOf, Sem.run_pure, run_typeInfo hi, ha, hb]
      simp only [Bool.or_eq_true, decide_eq_true_eq, askRoom, if_neg hroom, Sem.run_bind, Sem.run_pure, Result.andThen_ok, run_sizeAt hsz]
      rw [if_neg (by omega)]
      rcases h1 with ⟨h0, rfl⟩ | ⟨h0, v, h1, rfl⟩
      · simp only [Sem.run_pure, Result.andThen_ok, Sem.run_bind, if_neg hroom, run_sizeAt hsz, if_pos h0, newRow, run_newObj]; rfl
      · simp only [Sem.run_pure, Result.andThen_ok, Sem.run_bind, if_neg hroom, run_sizeAt hsz, if_neg h0, h1, newRow, run_newObj]; rfl
    | _ => exact hc.elim
  | _ => cases y <;> exact hc.elim

theorem slc_sound (hs : SRel F w p D rows) {t el : TypeId} {sz : Nat} (hu : P.underlying t = some (.slice el)) (hsz : sizeAt P el = some sz) {v : AV} {u : Value} (hv : VR F w p D v u)
    {lo hi : Option Value} {a b : AV} (hlo : (lo = none ∧ a = .int .i64 0) ∨ ∃ x, lo = some x ∧ VR F w p D a x) (hhi : (hi = none ∧ b = .int .i64 (lenV v)) ∨ ∃ x, hi = some x ∧ VR F w p D b x)
    (hl : lenC v) (hq : slcSz sz v) (hc : sliceC (lenV v).toNat a b) :
    ∃ r, (Instr.sliceAt t u lo hi none).run P w = .ok r w ∧ VR F w p D (sliceV v (intOr a).toNat (intOr b).toNat) r := by
  obtain ⟨k1, l, rfl⟩ : ∃ k1 l, a = .int k1 l := by cases a <;> first | exact ⟨_, _, rfl⟩ | exact hc.elim
  obtain ⟨k2, h, rfl⟩ : ∃ k2 h, b = .int k2 h := by cases b <;> first | exact ⟨_, _, rfl⟩ | exact hc.elim
  obtain ⟨h0, h1, h2⟩ := hc
  simp only [intOr]
  have run : ∀ (ad : Option Addr) (n cap : Nat), (n : Int) = lenV v → n ≤ cap → (Instr.sliceAt t (.slice ad n cap) lo hi none).run P w = .ok (.slice (if cap = l.toNat then ad else ad.map (·.add (l.toNat * sz))) (h.toNat - l.toNat) (cap - l.toNat)) w := by
    intro ad n cap hn hcap
    have hlow : lo = none ∧ l = 0 ∨ ∃ kk, lo = some (.int kk l) := by
      rcases hlo with ⟨e1, e2⟩ | ⟨x, e1, e2⟩
      · cases e2; exact .inl ⟨e1, rfl⟩
      · cases e2; exact .inr ⟨_, e1⟩
    have hhigh : hi = none ∧ h = lenV v ∨ ∃ kk, hi = some (.int kk h) := by
      rcases hhi with ⟨e1, e2⟩ | ⟨x, e1, e2⟩
      · cases e2; exact .inl ⟨e1, rfl⟩
      · cases e2; exact .inr ⟨_, e1⟩
    have hlh : 0 ≤ l ∧ l ≤ h.toNat := by omega
    have hhc : 0 ≤ h ∧ h ≤ cap := by omega
    simp only [Instr.sliceAt, Sem.run_bind, run_underlying hu, Result.andThen_ok, Instr.slice, Instr.sliceBounds]
    rcases hhigh with ⟨rfl, e2⟩ | ⟨kk, rfl⟩
    · have hnh : n = h.toNat := by omega
      rcases hlow with ⟨rfl, e1⟩ | ⟨kl, rfl⟩
      · subst e1
        simp [Sem.run_bind, run_sizeAt hsz, hnh]
      · simp [Sem.run_bind, run_sizeAt hsz, hnh, Instr.sliceBound, asIntOf, hlh]
        intro hm; exfalso; omega
    · rcases hlow with ⟨rfl, e1⟩ | ⟨kl, rfl⟩
      · subst e1
        simp [Sem.run_bind, run_sizeAt hsz, Instr.sliceBound, asIntOf, hhc]
      · simp [Sem.run_bind, run_sizeAt hsz, Instr.sliceBound, asIntOf, hhc, hlh]
        intro hm; exfalso; omega
  cases hv with
  | nils =>
    simp only [lenV] at h2 run
    obtain rfl : l = 0 := by omega
    obtain rfl : h = 0 := by omega
    exact ⟨_, run none 0 0 rfl (Nat.le_refl _), by simpa [sliceV] using (VR.nils (F := F) (w := w) (p := p) (D := D))⟩
  | roe q ad cap =>
    simp only [lenV] at h2 run
    obtain rfl : l = 0 := by omega
    obtain rfl : h = 0 := by omega
    refine ⟨_, run (some ad) 0 cap rfl (Nat.zero_le _), ?_⟩
    simp only [sliceV]
    by_cases hc0 : cap = 0
    · simpa [hc0] using VR.roe q ad 0
    · simp only [Int.toNat_zero, Nat.zero_mul, if_neg hc0, Option.map_some]
      exact .roe q _ _
  | rosNil q =>
    simp only [lenV] at h2 run
    obtain rfl : l = 0 := by simp at h2; omega
    obtain rfl : h = 0 := by simp at h2; omega
    exact ⟨_, run none 0 0 (by simp) (Nat.le_refl _), by simpa [sliceV] using VR.rosNil (F := F) (w := w) (p := p) (D := D) q⟩
  | rosEmp q ad cap =>
    simp only [lenV] at h2 run
    obtain rfl : l = 0 := by simp at h2; omega
    obtain rfl : h = 0 := by simp at h2; omega
    refine ⟨_, run (some ad) 0 cap (by simp) (Nat.zero_le _), ?_⟩
    simp only [sliceV]
    by_cases hc0 : cap = 0
    · simpa [hc0] using VR.rosEmp (F := F) (w := w) (p := p) (D := D) q ad 0
    · simp only [Int.toNat_zero, Nat.zero_mul, if_neg hc0, Option.map_some]
      simpa using VR.rosEmp (F := F) (w := w) (p := p) (D := D) q (ad.add 0) cap
  | ros q es b o cap c ty fz hb hF hcap hszs hr hh =>
    simp only [lenV] at h2 run
    obtain rfl : q = sz := hq
    refine ⟨_, run (some ⟨b, o, none⟩) es.length cap rfl hcap, ?_⟩
    have hlen : ((es.drop l.toNat).take (h.toNat - l.toNat)).length = h.toNat - l.toNat := by simp; omega
    simp only [sliceV]
    have key : ∀ o', (∃ d : Nat, o' = o + l.toNat * q ∨ (h.toNat - l.toNat = 0 ∧ o' = o)) → VR F w p D (.ros q ((es.drop l.toNat).take (h.toNat - l.toNat))) (.slice (some ⟨b, o', none⟩) (h.toNat - l.toNat) (cap - l.toNat)) := by
      intro o' ho'
      obtain ⟨_, ho'⟩ := ho'
      have hm1 : (l.toNat + (h.toNat - l.toNat)) * q ≤ es.length * q := Nat.mul_le_mul_right _ (by omega)
      rw [Nat.add_mul] at hm1
      have := VR.ros q ((es.drop l.toNat).take (h.toNat - l.toNat)) b o' (cap - l.toNat) c ty fz hb hF (F := F) (w := w) (p := p) (D := D) (by rw [hlen]; omega)
        (fun x hx => hszs x (List.mem_of_mem_drop (List.mem_of_mem_take hx)))
        (by
          rw [hlen]
          rcases ho' with rfl | ⟨e1, rfl⟩
          · omega
          · rw [e1]; omega)
        (fun i x j v hx hj => by
          rw [List.getElem?_take, List.getElem?_drop] at hx
          split at hx
          · rename_i hi
            rcases ho' with rfl | ⟨e1, rfl⟩
            · have := hh _ x j v hx hj
              rwa [Nat.add_mul, ← Nat.add_assoc] at this
            · omega
          · cases hx)
      rwa [hlen] at this
    by_cases hcl : cap = l.toNat
    · rw [if_pos hcl]; exact key o ⟨0, .inr ⟨by omega, rfl⟩⟩
    · rw [if_neg hcl, Option.map_some, add_none]; exact key _ ⟨0, .inl rfl⟩
  | sl id q i n kc ad cap hid hn hk ha =>
    simp only [lenV] at h2 run
    obtain rfl : q = sz := hq
    refine ⟨_, run ad n cap rfl hn, ?_⟩
    simp only [sliceV]
    refine .sl id q (i + l.toNat) _ _ _ (cap - l.toNat) hid (by omega) ?_ ?_
    · intro m hm
      cases kc with
      | none => simp at hm
      | some m' => simp at hm; have := hk m' rfl; omega
    · by_cases hcl : cap = l.toNat
      · left; omega
      · right
        obtain ⟨c, ty, fz, rfl, e2, e3⟩ := ha.resolve_left (by omega)
        refine ⟨c, ty, fz, ?_, e2, ?_⟩
        · rw [if_neg hcl, Option.map_some, add_none, Nat.add_mul, Nat.add_assoc]
        · rwa [show i + l.toNat + (cap - l.toNat) = i + cap by omega]
  | _ => exact hl.elim

theorem sla_sound (hs : SRel F w p D rows) {t el : TypeId} {n : Nat} (hu : P.underlying t = some (.array n el)) (hsz : sizeAt P el = some 1) {v : AV} {u : Value} (hv : VR F w p D v u)
    {lo hi : Option Value} {a b : AV} (hlo : (lo = none ∧ a = .int .i64 0) ∨ ∃ x, lo = some x ∧ VR F w p D a x) (hhi : (hi = none ∧ b = .int .i64 n) ∨ ∃ x, hi = some x ∧ VR F w p D b x)
    (hl : slaC rows n v) (hc : sliceC n a b) :
    ∃ r, (Instr.sliceAt t u lo hi none).run P w = .ok r w ∧ VR F w p D (slaV n (intOr a).toNat (intOr b).toNat v) r := by
  obtain ⟨k1, l, rfl⟩ : ∃ k1 l, a = .int k1 l := by cases a <;> first | exact ⟨_, _, rfl⟩ | exact hc.elim
  obtain ⟨k2, h, rfl⟩ : ∃ k2 h, b = .int k2 h := by cases b <;> first | exact ⟨_, _, rfl⟩ | exact hc.elim
  obtain ⟨h0, h1, h2⟩ := hc
  simp only [intOr]
  have run : ∀ (ad : Addr), (Instr.sliceAt t (.pointer (some ad)) lo hi none).run P w = .ok (.slice (some (if n = l.toNat then ad else ad.add (l.toNat * 1))) (h.toNat - l.toNat) (n - l.toNat)) w := by
    intro ad
    have hlow : lo = none ∧ l = 0 ∨ ∃ kk, lo = some (.int kk l) := by
      rcases hlo with ⟨e1, e2⟩ | ⟨x, e1, e2⟩
      · cases e2; exact .inl ⟨e1, rfl⟩
      · cases e2; exact .inr ⟨_, e1⟩
    have hhigh : hi = none ∧ h = n ∨ ∃ kk, hi = some (.int kk h) := by
      rcases hhi with ⟨e1, e2⟩ | ⟨x, e1, e2⟩
      · cases e2; exact .inl ⟨e1, rfl⟩
      · cases e2; exact .inr ⟨_, e1⟩
    have hlh : 0 ≤ l ∧ l ≤ h.toNat := by omega
    have hhc : 0 ≤ h ∧ h ≤ n := by omega
    simp only [Instr.sliceAt, Sem.run_bind, run_underlying hu, Result.andThen_ok, Instr.sliceBounds, Instr.sureAddr, Sem.run_pure]
    rcases hhigh with ⟨rfl, e2⟩ | ⟨kk, rfl⟩
    · have hnh : n = h.toNat := by omega
      rcases hlow with ⟨rfl, e1⟩ | ⟨kl, rfl⟩
      · subst e1
        simp [Sem.run_bind, run_sizeAt hsz, hnh]
      · simp [Sem.run_bind, run_sizeAt hsz, hnh, Instr.sliceBound, asIntOf, hlh]
        intro hm; exfalso; omega
    · rcases hlow with ⟨rfl, e1⟩ | ⟨kl, rfl⟩
      · subst e1
        simp [Sem.run_bind, run_sizeAt hsz, Instr.sliceBound, asIntOf, hhc]
      · simp [Sem.run_bind, run_sizeAt hsz, Instr.sliceBound, asIntOf, hhc, hlh]
        intro hm; exfalso; omega
  have hlt : l.toNat ≤ h.toNat := by omega
  have hht : h.toNat ≤ n := by omega
  cases hv with
  | rop cs bb o c ty fz hb hF hr hh =>
    have hl' : n ≤ cs.length := hl
    refine ⟨_, run ⟨bb, o, none⟩, ?_⟩
    simp only [slaV]
    have hlen : (((cs.drop l.toNat).take (h.toNat - l.toNat)).map fun c => [c]).length = h.toNat - l.toNat := by simp; omega
    have key : ∀ o', o' = o + l.toNat ∨ (h.toNat - l.toNat = 0 ∧ o' = o) → VR F w p D (.ros 1 (((cs.drop l.toNat).take (h.toNat - l.toNat)).map fun c => [c])) (.slice (some ⟨bb, o', none⟩) (h.toNat - l.toNat) (n - l.toNat)) := by
      intro o' ho'
      have := VR.ros 1 (((cs.drop l.toNat).take (h.toNat - l.toNat)).map fun c => [c]) bb o' (n - l.toNat) c ty fz hb hF (F := F) (w := w) (p := p) (D := D) (by rw [hlen]; omega)
        (fun x hx => by obtain ⟨y, _, rfl⟩ := List.mem_map.1 hx; rfl)
        (by
          rw [hlen]
          rcases ho' with rfl | ⟨e1, rfl⟩ <;> omega)
        (fun i x j v hx hj => by
          simp only [List.getElem?_map, Option.map_eq_some_iff, List.getElem?_take, List.getElem?_drop] at hx
          obtain ⟨y, hy, rfl⟩ := hx
          split at hy
          · rename_i hi
            cases j with
            | zero =>
              simp at hj; subst hj
              rcases ho' with rfl | ⟨e1, rfl⟩
              · have := hh _ _ hy
                rwa [show o + (l.toNat + i) = o + l.toNat + i * 1 + 0 by omega] at this
              · omega
            | succ j => simp at hj
          · cases hy)
      rwa [hlen] at this
    by_cases hcl : n = l.toNat
    · rw [if_pos hcl]; exact key o (.inr ⟨by omega, rfl⟩)
    · rw [if_neg hcl, add_none]; exact key _ (.inl (by omega))
  | pt id q i off hid =>
    simp only [slaC] at hl
    cases hlk : look rows id with
    | none => rw [hlk] at hl; exact hl.elim
    | some r =>
      rw [hlk] at hl
      obtain ⟨rfl, hi, ho⟩ := hl
      obtain ⟨_, hnF, hok⟩ := hs.row id r hlk
      obtain ⟨c, ty, fz, hb, hf, hr, hh⟩ := hok.ex
      have hmul : (i + 1) * r.sz ≤ r.es.length * r.sz := Nat.mul_le_mul_right _ hi
      have hmul' : (i + 1) * r.sz = i * r.sz + r.sz := by rw [Nat.add_mul, Nat.one_mul]
      refine ⟨_, run _, ?_⟩
      simp only [slaV]
      refine .sl id 1 (i * r.sz + off + l.toNat) _ _ _ (n - l.toNat) hid (by omega) (fun m hm => by cases hm; rfl) ?_
      by_cases hcl : n = l.toNat
      · left; omega
      · right
        refine ⟨c, ty, fz, ?_, hb, ?_⟩
        · rw [if_neg hcl, add_none]
          congr 2; omega
        · omega
  | _ => exact hl.elim
end
end Go.Proofs.YtggmkfagcjdifaaDoor.Ai
namespace Go.Proofs.YtggmkfagcjdifaaDoor.Ai
set_option linter.unusedSimpArgs false
set_option linter.unusedVariables false
set_option linter.unnecessarySimpa false
set_option linter.unusedSectionVars false
set_option linter.unusedVariables false
set_option linter.unusedSimpArgs false

section
variable {F : Nat → Prop} {w : World} {p : Place} {D : Nat → Prop} {e : Env} {rows : Rows} {P : Program} {k : Nat}

theorem vr_int {kk : IntKind} {n : Int} {u : Value} (h : VR F w p D (.int kk n) u) : u = .int kk n := by cases h; rfl
theorem vr_bool {b : Bool} {u : Value} (h : VR F w p D (.bool b) u) : u = .bool b := by cases h; rfl
theorem vr_str {s : ByteArray} {u : Value} (h : VR F w p D (.str s) u) : u = .string s := by cases h; rfl

theorem els_sound (hs : SRel F w p D rows) {v : AV} {u : Value} {sz : Nat} (hv : VR F w p D v u) (h : elsC rows sz v) :
    ∃ a n cap, u = .slice a n cap ∧ (elsV rows v).length = n ∧ (n = 0 ∨ ∃ (b o : Nat) (c : Array Value) (t : TypeId) (fz : Nat × Nat), a = some ⟨b, o, none⟩ ∧ w.heap[b]? = some (.cells c t fz) ∧ o + n * sz ≤ c.size ∧
      (∀ x ∈ elsV rows v, x.length = sz) ∧ ∀ i x j y, (elsV rows v)[i]? = some x → x[j]? = some y → VR F w p D y (c.getD (o + i * sz + j) undef)) := by
  cases hv with
  | nils => exact ⟨_, _, _, rfl, rfl, .inl rfl⟩
  | roe q a cap => exact ⟨_, _, _, rfl, rfl, .inl rfl⟩
  | rosNil q => exact ⟨_, _, _, rfl, rfl, .inl rfl⟩
  | rosEmp q => exact ⟨_, _, _, rfl, rfl, .inl rfl⟩
  | ros q es b o cap c ty fz hb hF hcap hszs hr hh =>
    obtain rfl : q = sz := h
    exact ⟨_, _, _, rfl, rfl, .inr ⟨b, o, c, ty, fz, rfl, hb, hr, hszs, hh⟩⟩
  | sl id q i n kc a cap hid hn hk ha =>
    simp only [elsC] at h
    cases hl : look rows id with
    | none => rw [hl] at h; exact h.elim
    | some r =>
      rw [hl] at h
      obtain ⟨_, hnF, hok⟩ := hs.row id r hl
      by_cases hrq : r.sz = q
      case neg =>
        simp only [beq_false_of_ne hrq, cond_false] at h
        obtain ⟨rfl, rfl, hin⟩ := h
        obtain ⟨c, t, fz, hb, hf, hr, hh⟩ := flat_ok hok
        simp only [elsV, hl, beq_false_of_ne hrq, cond_false]
        refine ⟨_, _, _, rfl, by simp only [List.length_map, List.length_take, List.length_drop]; omega, ?_⟩
        rcases ha with ha | ⟨c', t', fz', rfl, hb', hr'⟩
        · left; omega
        · right
          refine ⟨_, _, c, t, fz, rfl, hb, by omega, fun x hx => by obtain ⟨y, _, rfl⟩ := List.mem_map.1 hx; rfl, fun i' x j y hx hj => ?_⟩
          simp only [List.getElem?_map, Option.map_eq_some_iff, List.getElem?_take, List.getElem?_drop] at hx
          obtain ⟨y0, hy0, rfl⟩ := hx
          split at hy0
          · cases j with
            | zero =>
              simp at hj; subst hj
              have := hh _ _ hy0
              rwa [show (p id).2 + (i + i') = (p id).2 + i * 1 + i' * 1 + 0 by omega] at this
            | succ j => simp at hj
          · cases hy0
      subst hrq
      simp only [beq_self_eq_true, cond_true] at h
      obtain ⟨rfl, hin⟩ := h
      obtain ⟨c, t, fz, hb, hf, hr, hh⟩ := hok.ex
      simp only [elsV, hl, beq_self_eq_true, cond_true]
      refine ⟨_, _, _, rfl, by simp; omega, ?_⟩
      rcases ha with ha | ⟨c', t', fz', rfl, hb', hr'⟩
      · left; omega
      · right
        have hm1 : (i + n) * r.sz ≤ r.es.length * r.sz := Nat.mul_le_mul_right _ hin
        rw [Nat.add_mul] at hm1
        refine ⟨_, _, c, t, fz, rfl, hb, by omega, fun x hx => hok.sz x (List.mem_of_mem_drop (List.mem_of_mem_take hx)), fun i' x j y hx hj => ?_⟩
        rw [List.getElem?_take, List.getElem?_drop] at hx
        split at hx
        · have := hh _ x j y hx hj
          rwa [Nat.add_mul, ← Nat.add_assoc] at this
        · cases hx
  | _ => exact h.elim

theorem s2b_sound (hs : SRel F w p D rows) (hk : ¬ D k) {src dst el : TypeId} (h1 : P.underlying src = some .string) (h2 : P.underlying dst = some (.slice el)) (h3 : P.underlying el = some (.int .u8))
    {v : AV} {x : Value} (hv : VR F w p D v x) (hc : strIs v) :
    ∃ u w', (convert src dst x).run P w = .ok u w' ∧ PRes F w p D k w' u (s2bR v) (s2bV k v) := by
  cases hv with
  | str s =>
    have hge := grownCap_ge w s.size 0 el
    have hd : s.data.size = s.size := rfl
    have hsz : (bytesRow s (grownCap w s.size 0 el)).size = grownCap w s.size 0 el := by simp [bytesRow, hd]; omega
    refine ⟨_, _, run_bytes_of_string w src dst el s h1 h2 h3, ?_⟩
    refine PRes.row hs hk el (sz := 1) (es := s.data.toList.map fun b => [.int .u8 (b.toNat : Int)]) (by simp) (by rw [hsz]; simp; omega) ?_ ((Grow.drew w).trans (Grow.alloc _ _)) (fz := ((bytesRow s (grownCap w s.size 0 el)).size, (bytesRow s (grownCap w s.size 0 el)).size + 1)) (heap_alloc w.drew _) (.inr (Nat.le_refl _)) hge (by rw [hsz]; omega) (fun m hm => by cases hm)
    intro i x j v hx hj
    rw [List.getElem?_map] at hx
    cases hb : s.data.toList[i]? with
    | none => rw [hb] at hx; cases hx
    | some b =>
      rw [hb] at hx; cases hx
      cases j with
      | succ j => simp at hj
      | zero =>
        simp at hj; subst hj
        have hlt : i < s.data.size := by have := (List.getElem?_eq_some_iff.1 hb).1; simpa using this
        have hlt' : i < (bytesRow s (grownCap w s.size 0 el)).size := by rw [hsz]; omega
        have hval : s.data[i] = b := by have := (List.getElem?_eq_some_iff.1 hb).2; simpa using this
        have : (bytesRow s (grownCap w s.size 0 el)).getD (i * 1 + 0) undef = .int .u8 b.toNat := by
          simp only [Nat.mul_one, Nat.add_zero]
          simp only [bytesRow, Array.getD_eq_getD_getElem?]
          rw [Array.getElem?_append_left (by simpa using hlt), Array.getElem?_map, Array.getElem?_eq_getElem hlt, hval]
          rfl
        rw [this]
        exact .int _ _
  | _ => exact hc.elim

theorem bytes_fold : ∀ (ns : List Int) (s : ByteArray), ns.foldl (fun r n => r.push (UInt8.ofNat n.toNat)) s = ⟨s.data ++ (ns.map fun n => UInt8.ofNat n.toNat).toArray⟩
  | [], s => by simp
  | n :: ns, s => by rw [List.foldl_cons, bytes_fold ns]; simp [ByteArray.push]

theorem b2s_sound (hs : SRel F w p D rows) {src dst el : TypeId} (h1 : P.underlying src = some (.slice el)) (h2 : P.underlying dst = some .string) (h3 : P.underlying el = some (.int .u8))
    {v : AV} {x : Value} (hv : VR F w p D v x) (hc : elsC rows 1 v) (hb : ∀ c ∈ elsV rows v, ∃ y, c = [y] ∧ isByte y) :
    ∃ u, (convert src dst x).run P w = .ok u w ∧ VR F w p D (.str ⟨((elsV rows v).map fun c => byteOf (c.headD .any)).toArray⟩) u := by
  obtain ⟨a, n, cap, rfl, hlen, hn⟩ := els_sound hs hv hc
  have hconv : convert src dst (.slice a n cap) = convert src dst (.slice a n cap) := rfl
  have hrun : (convert src dst (.slice a n cap)).run P w = (Conv.bytesToString (.slice a n cap)).run P w := by
    simp [convert, run_underlying h1, run_underlying h2, run_underlying h3]
  have nums : ∃ ns : List Int, elsV rows v = ns.map (fun m => [AV.int .u8 m]) := by
    clear hlen hn hrun hconv hv
    generalize elsV rows v = es at *
    induction es with
    | nil => exact ⟨[], rfl⟩
    | cons c es ih =>
      obtain ⟨ns, hns⟩ := ih (fun c hc => hb c (by simp [hc]))
      obtain ⟨y, rfl, hy⟩ := hb _ List.mem_cons_self
      cases y with
      | int k m =>
        cases k
        case u8 => exact ⟨m :: ns, by simp [hns]⟩
        all_goals exact hy.elim
      | _ => exact hy.elim
  obtain ⟨ns, hns⟩ := nums
  rw [hrun]
  have hnl : ns.length = n := by rw [← hlen, hns]; simp
  have hval : (AV.str ⟨((elsV rows v).map fun c => byteOf (c.headD .any)).toArray⟩) = .str (ns.foldl (fun r n => r.push (UInt8.ofNat n.toNat)) ByteArray.empty) := by
    rw [bytes_fold, hns, List.map_map]
    congr 2
    show _ = #[] ++ _
    simp [Function.comp_def, byteOf]
  rw [hval]
  have hload : ∀ b : Addr, a = some b → (loadCells b n).run P w = .ok (ns.map (Value.int .u8)).toArray w := by
    intro b ha
    rcases hn with rfl | ⟨bb, o, c, t, fz, e1, hb', hr, hsz, hh⟩
    · obtain rfl : ns = [] := List.eq_nil_of_length_eq_zero hnl
      simp [loadCells, loadCellsFrom]
    · rw [e1] at ha; cases ha
      rw [run_loadCells_of hb' (by omega)]
      congr 2
      apply List.ext_getElem?
      intro j
      by_cases hj : j < n
      · have hx : (elsV rows v)[j]? = some [AV.int .u8 (ns[j]'(by omega))] := by rw [hns]; simp [show j < ns.length by omega]
        have := hh j _ 0 _ hx rfl
        rw [Nat.mul_one, Nat.add_zero] at this
        have he : c.getD (o + j) undef = .int .u8 (ns[j]'(by omega)) := by
          generalize c.getD (o + j) undef = z at this ⊢
          cases this; rfl
        rw [List.getElem?_map, List.getElem?_range hj, Option.map_some, he, List.getElem?_map, List.getElem?_eq_getElem (by omega)]
        rfl
      · simp [hj, show ¬ j < ns.length by omega]
  cases a with
  | none =>
    rcases hn with rfl | ⟨_, _, _, _, _, e1, _⟩
    · obtain rfl : ns = [] := List.eq_nil_of_length_eq_zero hnl
      exact ⟨_, rfl, .str _⟩
    · cases e1
  | some b => exact ⟨_, run_bytesToString w b n cap ns (hload b rfl), .str _⟩

theorem sls_sound {t : TypeId} (hu : P.underlying t = some .string) {v : AV} {u : Value} (hv : VR F w p D v u) {lo hi : Option Opd} {ρ : Operand → Value} {lo' hi' : Option Operand} (e : Env)
    (hlo : optOpd lo' = some lo) (hhi : optOpd hi' = some hi) (ho : ∀ x, (lo' = some x ∨ hi' = some x) → ∀ y, opd x = some y → VR F w p D (ev e y) (ρ x)) (hl : boundL e lo) (hh : boundL e hi)
    (hc : slsC e lo hi v) : ∃ r, (Instr.sliceAt t u (lo'.map ρ) (hi'.map ρ) none).run P w = .ok r w ∧ VR F w p D (slsV e lo hi v) r := by
  cases hv with
  | str s =>
    simp only [slsC] at hc
    have blo : (lo' = none ∧ bound e 0 lo = .int .i64 0) ∨ ∃ x y, lo' = some x ∧ opd x = some y ∧ bound e 0 lo = sv e y ∧ VR F w p D (sv e y) (ρ x) := by
      cases lo' with
      | none => simp only [optOpd, Option.some.injEq] at hlo; subst hlo; exact .inl ⟨rfl, rfl⟩
      | some x =>
        simp only [optOpd] at hlo
        cases hx : opd x with
        | none => rw [hx] at hlo; cases hlo
        | some y => rw [hx] at hlo; cases hlo; exact .inr ⟨x, y, rfl, hx, rfl, (ho x (.inl rfl) y hx).sv hl⟩
    have bhi : (hi' = none ∧ bound e s.size hi = .int .i64 s.size) ∨ ∃ x y, hi' = some x ∧ opd x = some y ∧ bound e s.size hi = sv e y ∧ VR F w p D (sv e y) (ρ x) := by
      cases hi' with
      | none => simp only [optOpd, Option.some.injEq] at hhi; subst hhi; exact .inl ⟨rfl, rfl⟩
      | some x =>
        simp only [optOpd] at hhi
        cases hx : opd x with
        | none => rw [hx] at hhi; cases hhi
        | some y => rw [hx] at hhi; cases hhi; exact .inr ⟨x, y, rfl, hx, rfl, (ho x (.inr rfl) y hx).sv hh⟩
    refine ⟨.string (s.extract (intOr (bound e 0 lo)).toNat (intOr (bound e s.size hi)).toNat), ?_, .str _⟩
    revert hc
    rcases blo with ⟨rfl, e1⟩ | ⟨x, y, rfl, e1, e2, e3⟩
    · rcases bhi with ⟨rfl, f1⟩ | ⟨z, q, rfl, f1, f2, f3⟩
      · rw [e1, f1]; intro hc
        simp [Instr.sliceAt, run_underlying hu, Instr.slice, Instr.sliceBounds, intOr]
      · rw [e1, f2]; intro hc
        obtain ⟨k2, h, hq⟩ : ∃ k2 h, sv e q = .int k2 h := by revert hc; cases sv e q <;> intro hc <;> first | exact ⟨_, _, rfl⟩ | exact hc.elim
        rw [hq] at f3 hc ⊢
        have hz := vr_int f3
        obtain ⟨h0, h1, h2⟩ := hc
        have hhc : 0 ≤ h ∧ h ≤ s.size := by omega
        simp [hz, Instr.sliceAt, run_underlying hu, Instr.slice, Instr.sliceBounds, intOr, Instr.sliceBound, asIntOf, hhc]
    · rcases bhi with ⟨rfl, f1⟩ | ⟨z, q, rfl, f1, f2, f3⟩
      · rw [e2, f1]; intro hc
        obtain ⟨k2, h, hq⟩ : ∃ k2 h, sv e y = .int k2 h := by revert hc; cases sv e y <;> intro hc <;> first | exact ⟨_, _, rfl⟩ | exact hc.elim
        rw [hq] at e3 hc ⊢
        have hz := vr_int e3
        obtain ⟨h0, h1, h2⟩ := hc
        have hhc : 0 ≤ h ∧ h ≤ s.size := by omega
        simp [hz, Instr.sliceAt, run_underlying hu, Instr.slice, Instr.sliceBounds, intOr, Instr.sliceBound, asIntOf, hhc]
      · rw [e2, f2]; intro hc
        obtain ⟨k1, l, hy⟩ : ∃ k2 h, sv e y = .int k2 h := by revert hc; cases sv e y <;> intro hc <;> first | exact ⟨_, _, rfl⟩ | exact hc.elim
        rw [hy] at e3 hc ⊢
        obtain ⟨k2, h, hq⟩ : ∃ k2 h, sv e q = .int k2 h := by revert hc; cases sv e q <;> intro hc <;> first | exact ⟨_, _, rfl⟩ | exact hc.elim
        rw [hq] at f3 hc ⊢
        have hx := vr_int e3
        have hz := vr_int f3
        obtain ⟨h0, h1, h2⟩ := hc
        have hhc : 0 ≤ h ∧ h ≤ s.size := by omega
        have hlc : 0 ≤ l ∧ l ≤ h.toNat := by omega
        simp only [Option.map_some, hx, hz, Instr.sliceAt, Sem.run_bind, run_underlying hu, Result.andThen_ok, Instr.slice, Instr.sliceBounds, Instr.sliceBound, asIntOf, Sem.run_pure, if_pos hhc, if_pos hlc, intOr]
        simp [hhc, hlc]
        intro hm; exfalso; omega
  | _ => exact hc.elim
end
end Go.Proofs.YtggmkfagcjdifaaDoor.Ai
namespace Go.Proofs.YtggmkfagcjdifaaDoor.Ai
set_option linter.unusedSimpArgs false
set_option linter.unusedVariables false
set_option linter.unnecessarySimpa false
set_option linter.unusedSectionVars false
set_option linter.unusedVariables false
set_option linter.unusedSimpArgs false

section
variable {F : Nat → Prop} {w : World} {p : Place} {D : Nat → Prop} {e : Env} {rows : Rows} {P : Program} {k : Nat}

theorem run_v {s : Sem Value} {u : Value} {w' : World} (h : s.run P w = .ok u w') : (do pure (Next.value (← s)) : Sem Next).run P w = .ok (.value u) w' := by
  simp [h]

theorem boolIs {v : AV} {u : Value} (h : VR F w p D v u) (hc : boolC v) : ∃ b, v = .bool b ∧ u = .bool b := by
  cases h <;> first | exact ⟨_, rfl, rfl⟩ | exact hc.elim
theorem intOf' {v : AV} {u : Value} (h : VR F w p D v u) (hc : intIs v) : ∃ k n, v = .int k n ∧ u = .int k n := by
  cases h <;> first | exact ⟨_, _, rfl, rfl⟩ | exact hc.elim
theorem strOf {v : AV} {u : Value} (h : VR F w p D v u) (hc : strIs v) : ∃ s, v = .str s ∧ u = .string s := by
  cases h <;> first | exact ⟨_, rfl, rfl⟩ | exact hc.elim
theorem aggOf {cs : List AV} {u : Value} (h : VR F w p D (.agg cs) u) : ∃ us, u = .agg us ∧ CellsOK F w p D cs us := by
  cases h with | agg _ us hs h => exact ⟨us, rfl, hs, h⟩
theorem tupOf {cs : List AV} {u : Value} (h : VR F w p D (.tup cs) u) : ∃ us, u = .tuple us ∧ CellsOK F w p D cs us := by
  cases h with | tup _ us hs h => exact ⟨us, rfl, hs, h⟩

theorem list_ok {ρ : Operand → Value} {xs : Array Operand} {ys : List Opd} (h : mapO opd xs.toList = some ys) (ho : ∀ x ∈ xs, ∀ y, opd x = some y → VR F w p D (ev e y) (ρ x)) (hl : allLv e ys) :
    CellsOK F w p D (ys.map (sv e)) (xs.map ρ) := by
  obtain ⟨h1, h2⟩ := mapO_some h
  have hall : ∀ {ys : List Opd}, allLv e ys → ∀ y ∈ ys, lv e y := by
    intro ys
    induction ys with
    | nil => intro _ y hy; cases hy
    | cons a l ih => intro hl y hy; rcases List.mem_cons.1 hy with rfl | hy; exact hl.1; exact ih hl.2 y hy
  refine ⟨by simp [h1], fun j v hj => ?_⟩
  rw [List.getElem?_map] at hj
  cases hy : ys[j]? with
  | none => rw [hy] at hj; cases hj
  | some y =>
    rw [hy] at hj; cases hj
    have hlt : j < xs.size := by have := (List.getElem?_eq_some_iff.1 hy).1; simp at h1; omega
    obtain ⟨z, h3, h4⟩ := h2 j xs[j] (by simp [hlt])
    rw [hy] at h4; cases h4
    have : (xs.map ρ).getD j undef = ρ xs[j] := by simp [hlt]
    rw [this]
    exact (ho _ (by simp) y h3).sv (hall hl y (List.mem_of_getElem? hy))

theorem bnd_ok {ρ : Operand → Value} {lo : Option Operand} {lo' : Option Opd} {d : Nat} (h : optOpd lo = some lo') (ho : ∀ x, lo = some x → ∀ y, opd x = some y → VR F w p D (ev e y) (ρ x)) (hl : boundL e lo') :
    (lo.map ρ = none ∧ bound e d lo' = .int .i64 d) ∨ ∃ x, lo.map ρ = some x ∧ VR F w p D (bound e d lo') x := by
  cases lo with
  | none => simp only [optOpd, Option.some.injEq] at h; subst h; exact .inl ⟨rfl, rfl⟩
  | some x =>
    simp only [optOpd] at h
    cases hx : opd x with
    | none => rw [hx] at h; cases h
    | some y => rw [hx] at h; cases h; exact .inr ⟨ρ x, rfl, (ho x rfl y hx).sv hl⟩

theorem VR.sel {t : Bool} {a b : AV} {ua ub : Value} (ha : t = true → VR F w p D a ua) (hb : t = false → VR F w p D b ub) : VR F w p D (sel t a b) (if t then ua else ub) := by
  cases t with
  | true =>
    have ha := ha rfl
    simp only [if_true]
    cases a <;> cases b <;> first | exact ha | skip
    all_goals simpa [Ai.sel] using ha
  | false =>
    have hb := hb rfl
    simp only [Bool.false_eq_true, if_false]
    cases a <;> cases b <;> first | exact hb | skip
    all_goals simpa [Ai.sel] using hb
end
end Go.Proofs.YtggmkfagcjdifaaDoor.Ai
namespace Go.Proofs.YtggmkfagcjdifaaDoor.Ai
set_option linter.unusedSimpArgs false
set_option linter.unusedVariables false
set_option linter.unnecessarySimpa false
set_option linter.unusedSectionVars false
set_option linter.unusedVariables false
set_option linter.unusedSimpArgs false

section
variable {F : Nat → Prop} {w : World} {p : Place} {D : Nat → Prop} {e : Env} {rows : Rows} {P : Program} {k : Nat}

theorem eqGuard_none {op : BinOp} {t : TypeId} {x y : Operand} {a b : Value} (h1 : ∀ c, a ≠ .agg c) (h2 : a ≠ .nilIface) : (eqGuard op t x y a b).run P w = .ok () w := by
  unfold eqGuard
  cases op
  case eql => cases a <;> first | (exfalso; exact h2 rfl) | (exfalso; exact h1 _ rfl) | (cases b <;> simp)
  case neq => cases a <;> first | (exfalso; exact h2 rfl) | (exfalso; exact h1 _ rfl) | (cases b <;> simp)
  all_goals simp

theorem run_bin {op : BinOp} {t yt : TypeId} {x y : Operand} {ρ : Operand → Value} {r : Value} (h1 : ∀ c, ρ x ≠ .agg c) (h2 : ρ x ≠ .nilIface) (h : (binOp op t (ρ x) (ρ y)).run P w = .ok r w)
    (dst : Option Tmp) (ty : TypeId) (pos : String) (after : Array Edge) (guard : Option (Nat × Bool)) :
    (execOp ρ ⟨dst, .binOp op t x y yt, ty, pos, after, guard⟩).run P w = .ok (.value r) w := by
  simp only [execOp, Sem.run_bind, eqGuard_none h1 h2, Result.andThen_ok, h, Sem.run_pure]

theorem pure_sound {o : Oper} {r : ROp} {ρ : Operand → Value} (hs : SRel F w p D rows) (hk : ¬ D k) (hl : liteOp P o.op = some r)
    (ho : ∀ x ∈ o.op.operands, ∀ y, opd x = some y → VR F w p D (ev e y) (ρ x)) (hc : pcond e rows r) :
    ∃ u w', (execOp ρ o).run P w = .ok (.value u) w' ∧ PRes F w p D k w' u (prow e rows r) (pval e rows k r) := by
  obtain ⟨dst, op, ty, pos, after, guard⟩ := o
  have same : ∀ {v : AV} {u : Value}, VR F w p D v u → PRes F w p D k w u none v := fun h => .same hs hk h
  cases op <;> simp only [liteOp, bind, Option.bind_eq_some_iff, Option.some.injEq, reduceCtorEq] at hl <;> simp only [Op.operands] at ho
  case move x =>
    obtain ⟨y, hy, rfl⟩ := hl
    exact ⟨_, w, rfl, same (ho x (by simp) y hy)⟩
  case assign x =>
    obtain ⟨y, hy, rfl⟩ := hl
    exact ⟨_, w, rfl, same (ho x (by simp) y hy)⟩
  case pick c a b =>
    obtain ⟨c', hc', a', ha', b', hb', rfl⟩ := hl
    obtain ⟨l1, hp⟩ := hc
    have v1 := (ho c (by simp) c' hc').sv l1
    simp only [pval, prow]
    cases hcv : sv e c' with
    | bool t =>
      rw [hcv] at v1 hp
      have hb := vr_bool v1
      refine ⟨if t then ρ a else ρ b, w, by simp [execOp, hb, asBool], same ?_⟩
      exact VR.sel (fun h => (ho a (by simp) a' ha').sv (hp.1 h)) (fun h => (ho b (by simp) b' hb').sv (hp.2 h))
    | _ => rw [hcv] at hp; exact hp.elim
  case nilCheck x =>
    obtain ⟨y, hy, rfl⟩ := hl
    obtain ⟨l1, hp⟩ := hc
    have v1 := (ho x (by simp) y hy).sv l1
    simp only [pval, prow]
    refine ⟨ρ x, w, ?_, same v1⟩
    generalize sv e y = v at v1 hp
    generalize hx : ρ x = u at v1
    cases v1 with
    | rop => simp [execOp, hx]
    | pt => simp [execOp, hx]
    | fn f xs ys us vs => cases f <;> first | exact hp.elim | simp [execOp, hx]
    | _ => exact hp.elim
  case alloc t =>
    obtain ⟨z, hz, rfl⟩ := hl
    obtain ⟨u, w', h1, h2⟩ := alloc_sound (D := D) hs hk hz (.tuple #[])
    exact ⟨u, w', run_v h1, h2⟩
  case box t x =>
    obtain ⟨y, hy, rfl⟩ := hl
    obtain ⟨l1, hp⟩ := hc
    obtain ⟨u, w', h1, h2⟩ := box_sound hs hk t ((ho x (by simp) y hy).sv l1) hp
    exact ⟨u, w', run_v h1, h2⟩
  case load t x =>
    obtain ⟨g, hg, s, hsz, hif⟩ := hl
    split at hif
    · rename_i hgs
      simp only [bind, Option.bind_eq_some_iff, Option.some.injEq] at hif
      obtain ⟨y, hy, rfl⟩ := hif
      obtain ⟨l1, hp⟩ := hc
      obtain ⟨u, h1, h2⟩ := ld_sound hs ((ho x (by simp) y hy).sv l1) hp hg hsz (by simpa using hgs)
      exact ⟨u, w, run_v h1, same h2⟩
    · cases hif
  case fieldAddr s x f =>
    split at hl
    · rename_i fs hu
      simp only [bind, Option.bind_eq_some_iff, Option.some.injEq] at hl
      obtain ⟨fl, hf, n, hn, hif⟩ := hl
      split at hif
      · cases hif
      · rename_i h0
        simp only [bind, Option.bind_eq_some_iff, Option.some.injEq] at hif
        obtain ⟨y, hy, rfl⟩ := hif
        obtain ⟨l1, hp⟩ := hc
        obtain ⟨u, h1, h2⟩ := fa_sound hs ((ho x (by simp) y hy).sv l1) hu hf hn h0 hp
        exact ⟨u, w, run_v h1, same h2⟩
    · cases hl
  case field s x f =>
    split at hl
    · rename_i fs hu
      simp only [bind, Option.bind_eq_some_iff, Option.some.injEq] at hl
      obtain ⟨fl, hf, n, hn, g, hg, hif⟩ := hl
      split at hif
      · rename_i hgs
        simp only [bind, Option.bind_eq_some_iff, Option.some.injEq] at hif
        obtain ⟨y, hy, rfl⟩ := hif
        obtain ⟨l1, hp⟩ := hc
        have v1 := (ho x (by simp) y hy).sv l1
        simp only [pval, prow]
        cases hv : sv e y with
        | agg cs =>
          rw [hv] at v1 hp
          obtain ⟨us, hus, hcs⟩ := aggOf v1
          obtain ⟨u, h1, h2⟩ := part_sound (P := P) hcs hg hn (by simpa using hgs) hp
          refine ⟨u, w, run_v ?_, same h2⟩
          simp only [Instr.field, Sem.run_bind, run_underlying hu, Result.andThen_ok, hf, hus, asAgg, Sem.run_pure, h1]
        | _ => rw [hv] at hp; exact hp.elim
      · cases hif
    · cases hl
  case indexAddr t x i =>
    split at hl
    · rename_i el hu
      simp only [bind, Option.bind_eq_some_iff, Option.some.injEq] at hl
      obtain ⟨n, hn, y, hy, i', hi', rfl⟩ := hl
      obtain ⟨l1, l2, hp⟩ := hc
      obtain ⟨u, h1, h2⟩ := ias_sound hs ((ho x (by simp) y hy).sv l1) ((ho i (by simp) i' hi').sv l2) hu hn hp
      exact ⟨u, w, run_v h1, same h2⟩
    · rename_i len el hu
      simp only [bind, Option.bind_eq_some_iff, Option.some.injEq] at hl
      obtain ⟨n, hn, y, hy, i', hi', rfl⟩ := hl
      obtain ⟨l1, l2, hp⟩ := hc
      obtain ⟨u, h1, h2⟩ := iaa_sound hs ((ho x (by simp) y hy).sv l1) ((ho i (by simp) i' hi').sv l2) hu hn hp
      exact ⟨u, w, run_v h1, same h2⟩
    · cases hl
  case index t x i =>
    split at hl
    · rename_i len el hu
      simp only [bind, Option.bind_eq_some_iff, Option.some.injEq] at hl
      obtain ⟨n, hn, g, hg, hif⟩ := hl
      split at hif
      · rename_i hgs
        simp only [bind, Option.bind_eq_some_iff, Option.some.injEq] at hif
        obtain ⟨y, hy, i', hi', rfl⟩ := hif
        obtain ⟨l1, l2, hp⟩ := hc
        have v1 := (ho x (by simp) y hy).sv l1
        have v2 := (ho i (by simp) i' hi').sv l2
        simp only [pval, prow]
        cases hv : sv e y with
        | agg cs =>
          rw [hv] at v1 hp
          cases hi : sv e i' with
          | int kk m =>
            rw [hi] at v2 hp
            obtain ⟨us, hus, hcs⟩ := aggOf v1
            obtain ⟨h0, h1, h2⟩ := hp
            obtain ⟨u, h3, h4⟩ := part_sound (P := P) hcs hg hn (by simpa using hgs) h2
            refine ⟨u, w, run_v ?_, same h4⟩
            simp only [Instr.index, Sem.run_bind, run_underlying hu, Result.andThen_ok, vr_int v2, hus, asIntOf, Sem.run_pure, h3, if_pos (And.intro h0 h1), run_sizeAt hn]
          | _ => rw [hi] at hp; exact hp.elim
        | _ => rw [hv] at hp; exact hp.elim
      · cases hif
    · rename_i hu
      simp only [bind, Option.bind_eq_some_iff, Option.some.injEq] at hl
      obtain ⟨y, hy, i', hi', rfl⟩ := hl
      obtain ⟨l1, l2, hp⟩ := hc
      have v1 := (ho x (by simp) y hy).sv l1
      have v2 := (ho i (by simp) i' hi').sv l2
      simp only [pval, prow]
      cases hv : sv e y with
      | str s =>
        rw [hv] at v1 hp
        cases hi : sv e i' with
        | int kk m =>
          rw [hi] at v2 hp
          obtain ⟨h0, h1⟩ := hp
          have hlt : m.toNat < s.size := by omega
          refine ⟨.int .u8 ((s.data.toList.getD m.toNat 0).toNat : Int), w, run_v ?_, same (.int _ _)⟩
          have hget : s[m.toNat]? = some (s.data.toList.getD m.toNat 0) := by
            rw [getElem?_pos s m.toNat hlt]
            have hd : m.toNat < s.data.toList.length := by simpa using hlt
            have : s[m.toNat] = s.data.toList[m.toNat] := rfl
            rw [this, List.getD, List.getElem?_eq_getElem hd]; rfl
          simp only [Instr.index, Sem.run_bind, run_underlying hu, Result.andThen_ok, vr_int v2, vr_str v1, asIntOf, Sem.run_pure, if_pos h0, hget]
        | _ => rw [hi] at hp; exact hp.elim
      | _ => rw [hv] at hp; exact hp.elim
    · cases hl
  case extract x i =>
    obtain ⟨y, hy, rfl⟩ := hl
    obtain ⟨l1, hp⟩ := hc
    have v1 := (ho x (by simp) y hy).sv l1
    simp only [pval, prow]
    cases hv : sv e y with
    | tup cs =>
      rw [hv] at v1 hp
      obtain ⟨us, hus, hcs⟩ := tupOf v1
      have hp' : i < cs.length := hp
      have hlt : i < us.size := by rw [hcs.1]; exact hp'
      refine ⟨us[i], w, run_v ?_, same ?_⟩
      · simp [Instr.extract, hus, hlt]
      · have := hcs.2 i _ (List.getElem?_eq_getElem hp')
        simpa [extV, hlt, hp'] using this
    | _ => rw [hv] at hp; exact hp.elim
  case binOp op t x y yt =>
    split at hl
    · rename_i hu
      simp only [bind, Option.bind_eq_some_iff, Option.some.injEq] at hl
      obtain ⟨x', hx', y', hy', rfl⟩ := hl
      obtain ⟨l1, l2, b1, b2⟩ := hc
      obtain ⟨a, ha, ha'⟩ := boolIs ((ho x (by simp) x' hx').sv l1) b1
      obtain ⟨b, hb, hb'⟩ := boolIs ((ho y (by simp) y' hy').sv l2) b2
      have := eqb_sound (P := P) (w := w) (a := a) (b := b) (neg := false) hu
      rw [← ha', ← hb'] at this
      exact ⟨_, w, run_bin (by rw [ha']; simp) (by rw [ha']; simp) this _ _ _ _ _, same (by simp only [pval, ha, hb, eqbV]; exact .bool _)⟩
    · rename_i hu
      simp only [bind, Option.bind_eq_some_iff, Option.some.injEq] at hl
      obtain ⟨x', hx', y', hy', rfl⟩ := hl
      obtain ⟨l1, l2, b1, b2⟩ := hc
      obtain ⟨a, ha, ha'⟩ := boolIs ((ho x (by simp) x' hx').sv l1) b1
      obtain ⟨b, hb, hb'⟩ := boolIs ((ho y (by simp) y' hy').sv l2) b2
      have := eqb_sound (P := P) (w := w) (a := a) (b := b) (neg := true) hu
      rw [← ha', ← hb'] at this
      exact ⟨_, w, run_bin (by rw [ha']; simp) (by rw [ha']; simp) this _ _ _ _ _, same (by simp only [pval, ha, hb, eqbV]; exact .bool _)⟩
    · rename_i el hu
      simp only [bind, Option.bind_eq_some_iff, Option.some.injEq] at hl
      obtain ⟨x', hx', y', hy', rfl⟩ := hl
      obtain ⟨l1, l2, b1, b2⟩ := hc
      have v2 := (ho y (by simp) y' hy').sv l2
      have hy0 : ρ y = .slice none 0 0 := by
        revert b2 v2; generalize sv e y' = v; generalize ρ y = u
        intro b2 v2; cases v2 <;> first | rfl | exact b2.elim
      obtain ⟨h1, h2, h3⟩ := eqn_sound (P := P) (neg := false) hu ((ho x (by simp) x' hx').sv l1) b1
      rw [← hy0] at h1
      exact ⟨_, w, run_bin h2 h3 h1 _ _ _ _ _, same (.bool _)⟩
    · rename_i el hu
      simp only [bind, Option.bind_eq_some_iff, Option.some.injEq] at hl
      obtain ⟨x', hx', y', hy', rfl⟩ := hl
      obtain ⟨l1, l2, b1, b2⟩ := hc
      have v2 := (ho y (by simp) y' hy').sv l2
      have hy0 : ρ y = .slice none 0 0 := by
        revert b2 v2; generalize sv e y' = v; generalize ρ y = u
        intro b2 v2; cases v2 <;> first | rfl | exact b2.elim
      obtain ⟨h1, h2, h3⟩ := eqn_sound (P := P) (neg := true) hu ((ho x (by simp) x' hx').sv l1) b1
      rw [← hy0] at h1
      exact ⟨_, w, run_bin h2 h3 h1 _ _ _ _ _, same (.bool _)⟩
    · simp only [bind, Option.bind_eq_some_iff, Option.some.injEq] at hl
      obtain ⟨x', hx', y', hy', rfl⟩ := hl
      obtain ⟨l1, l2, b1⟩ := hc
      obtain ⟨r, h1, h2, h3, h4⟩ := bin_sound (P := P) (t := t) ((ho x (by simp) x' hx').sv l1) ((ho y (by simp) y' hy').sv l2) b1
      exact ⟨r, w, run_bin h3 h4 h1 _ _ _ _ _, same h2⟩
    · simp only [bind, Option.bind_eq_some_iff, Option.some.injEq] at hl
      obtain ⟨x', hx', y', hy', rfl⟩ := hl
      obtain ⟨l1, l2, b1⟩ := hc
      obtain ⟨r, h1, h2, h3, h4⟩ := bin_sound (P := P) (t := t) ((ho x (by simp) x' hx').sv l1) ((ho y (by simp) y' hy').sv l2) b1
      exact ⟨r, w, run_bin h3 h4 h1 _ _ _ _ _, same h2⟩
    · cases hl
  case unOp uop t x =>
    cases uop <;> simp only [bind, Option.bind_eq_some_iff, Option.some.injEq, reduceCtorEq] at hl
    case not =>
      obtain ⟨x', hx', rfl⟩ := hl
      obtain ⟨l1, b1⟩ := hc
      obtain ⟨a, ha, ha'⟩ := boolIs ((ho x (by simp) x' hx').sv l1) b1
      exact ⟨_, w, run_v (by rw [ha']; rfl), same (by simp only [pval, ha, notV]; exact .bool _)⟩
    case neg =>
      obtain ⟨x', hx', rfl⟩ := hl
      obtain ⟨l1, b1⟩ := hc
      obtain ⟨kk, n, ha, ha'⟩ := intOf' ((ho x (by simp) x' hx').sv l1) b1
      exact ⟨_, w, run_v (by rw [ha']; rfl), same (by simp only [pval, ha, negV]; exact .int _ _)⟩
    case xor =>
      obtain ⟨x', hx', rfl⟩ := hl
      obtain ⟨l1, b1⟩ := hc
      obtain ⟨kk, n, ha, ha'⟩ := intOf' ((ho x (by simp) x' hx').sv l1) b1
      exact ⟨_, w, run_v (by rw [ha']; rfl), same (by simp only [pval, ha, bnotV]; exact .int _ _)⟩
  case convert s d x =>
    obtain ⟨x', hx', hl⟩ := hl
    split at hl
    · rename_i k1 k2 hs' hd'
      cases hl
      obtain ⟨l1, b1⟩ := hc
      obtain ⟨kk, n, ha, ha'⟩ := intOf' ((ho x (by simp) x' hx').sv l1) b1
      exact ⟨.int k2 (k2.wrap n), w, run_v (by rw [ha']; simp [convert, run_underlying hs', run_underlying hd', Conv.intToInt]), same (by simp only [pval, ha, cvV]; exact .int _ _)⟩
    · rename_i el hs' hd'
      split at hl
      · rename_i he
        cases hl
        obtain ⟨l1, b1, b2⟩ := hc
        obtain ⟨u, h1, h2⟩ := b2s_sound hs hs' hd' he ((ho x (by simp) x' hx').sv l1) b1 b2
        exact ⟨u, w, run_v h1, same h2⟩
      · cases hl
    · rename_i el hs' hd'
      split at hl
      · rename_i he
        cases hl
        obtain ⟨l1, b1⟩ := hc
        obtain ⟨u, w', h1, h2⟩ := s2b_sound hs hk hs' hd' he ((ho x (by simp) x' hx').sv l1) b1
        exact ⟨u, w', run_v h1, h2⟩
      · cases hl
    · cases hl
  case makeFunc f xs ys =>
    cases f <;> simp only [bind, Option.bind_eq_some_iff, Option.some.injEq, reduceCtorEq] at hl
    obtain ⟨xs', hxs, ys', hys, rfl⟩ := hl
    obtain ⟨l1, l2⟩ := hc
    have h1 := list_ok hxs (fun x hx => ho x (by simp [hx])) l1
    have h2 := list_ok hys (fun x hx => ho x (by simp [hx])) l2
    exact ⟨_, w, rfl, same (.fn _ _ _ _ _ h1.1 h2.1 h1.2 h2.2)⟩
  case makeInterface t x =>
    split at hl
    · cases hl
    · rename_i d hne hu
      simp only [bind, Option.bind_eq_some_iff, Option.some.injEq] at hl
      obtain ⟨x', hx', rfl⟩ := hl
      refine ⟨.iface t (ρ x), w, run_v ?_, same (.ifc _ _ _ ((ho x (by simp) x' hx').sv hc))⟩
      simp only [Instr.makeInterface, Sem.run_bind, run_underlying hu, Result.andThen_ok]
      cases d <;> first | rfl | exact absurd hu (hne _)
    · cases hl
  case slice t x lo hi mx =>
    cases mx <;> simp only [bind, Option.bind_eq_some_iff, Option.some.injEq, reduceCtorEq] at hl
    split at hl
    · rename_i el hu
      simp only [bind, Option.bind_eq_some_iff, Option.some.injEq] at hl
      obtain ⟨n, hn, x', hx', lo', hlo, hi', hhi, rfl⟩ := hl
      obtain ⟨l1, l2, l3, b1, b2, b3⟩ := hc
      have v1 := (ho x (by simp) x' hx').sv l1
      have g1 := bnd_ok (d := 0) hlo (fun y hy => ho y (by simp [hy])) l2
      have g2 := bnd_ok (d := (lenV (sv e x')).toNat) hhi (fun y hy => ho y (by simp [hy])) l3
      have hnn : ((lenV (sv e x')).toNat : Int) = lenV (sv e x') := by
        have : 0 ≤ lenV (sv e x') := by cases sv e x' <;> simp [lenV]
        omega
      rw [hnn] at g2
      obtain ⟨u, h1, h2⟩ := slc_sound hs hu hn v1 (g1.imp (fun h => h) (fun h => h)) (g2.imp (fun h => h) (fun h => h)) b1 b2 b3
      exact ⟨u, w, run_v h1, same h2⟩
    · rename_i hu
      simp only [bind, Option.bind_eq_some_iff, Option.some.injEq] at hl
      obtain ⟨x', hx', lo', hlo, hi', hhi, rfl⟩ := hl
      obtain ⟨l1, l2, l3, b1⟩ := hc
      have v1 := (ho x (by simp) x' hx').sv l1
      obtain ⟨u, h1, h2⟩ := sls_sound hu v1 e hlo hhi (fun y hy => ho y (by rcases hy with hy | hy <;> simp [hy])) l2 l3 b1
      exact ⟨u, w, run_v h1, same h2⟩
    · rename_i n el hu
      simp only [bind, Option.bind_eq_some_iff, Option.some.injEq] at hl
      obtain ⟨s, hn, hif⟩ := hl
      split at hif
      · rename_i hs1
        simp only [bind, Option.bind_eq_some_iff, Option.some.injEq] at hif
        obtain ⟨x', hx', lo', hlo, hi', hhi, rfl⟩ := hif
        simp only [beq_iff_eq] at hs1; subst hs1
        obtain ⟨l1, l2, l3, b1, b2⟩ := hc
        have v1 := (ho x (by simp) x' hx').sv l1
        have g1 := bnd_ok (d := 0) hlo (fun y hy => ho y (by simp [hy])) l2
        have g2 := bnd_ok (d := n) hhi (fun y hy => ho y (by simp [hy])) l3
        obtain ⟨u, h1, h2⟩ := sla_sound hs hu hn v1 (g1.imp (fun h => h) (fun h => h)) (g2.imp (fun h => h) (fun h => h)) b1 b2
        exact ⟨u, w, run_v h1, same h2⟩
      · cases hif
    · cases hl
  case makeSlice t n c =>
    split at hl
    · rename_i el hu
      simp only [bind, Option.bind_eq_some_iff, Option.some.injEq] at hl
      obtain ⟨i, hi, z, hz, n', hn', c', hc', rfl⟩ := hl
      obtain ⟨l1, l2, b1, b2⟩ := hc
      obtain ⟨u, w', h1, h2⟩ := mks_sound hs hk hu hi hz ((ho n (by simp) n' hn').sv l1) ((ho c (by simp) c' hc').sv l2) b1 b2
      exact ⟨u, w', run_v h1, h2⟩
    · cases hl
  case build t ps =>
    obtain ⟨z, hz, hl⟩ := hl
    have hx : ∀ x ∈ ps.toList, ∀ y, opd x.2 = some y → VR F w p D (ev e y) (ρ x.2) := fun x hx => ho x.2 (by
      simp only [List.mem_toArray, List.mem_map]; exact ⟨x, hx, rfl⟩)
    obtain ⟨zv, hz1, hz2⟩ := run_zero hz w
    have hz3 := vr_list (F := F) (w := w) (p := p) (D := D) hz2
    have hmap : (ps.map fun x => (x.1, ρ x.2)).toList = ps.toList.map fun x => (x.1, ρ x.2) := by simp
    split at hl
    · rename_i fs hu
      simp only [Option.bind_eq_some_iff, Option.some.injEq] at hl
      obtain ⟨ns, hns, qs, hq, rfl⟩ := hl
      obtain ⟨q1, q2⟩ := mapO_map hq
      have hpl := run_placesA (P := P) (w := w) hns
      obtain ⟨us, f1, f2⟩ := fill_sound (e := e) (ρ := ρ) ((fs.map fun f => (f.offset, (sizeAt P f.type).getD 0))[·]?) ps.toList qs z zv.cells hz3 hx q1 (fun j x hj => by
        obtain ⟨y, h1, h2⟩ := q2 j x hj
        simp only [Option.bind_eq_some_iff, Option.some.injEq] at h2
        obtain ⟨f, h3, n, h4, y', h5, rfl⟩ := h2
        exact ⟨_, _, y', h1, by simp [h3, h4], h5⟩) hc
      refine ⟨.agg us, w, run_v ?_, same (.agg _ _ f2.1 f2.2)⟩
      simp only [Instr.build, Sem.run_bind, hz1, Result.andThen_ok, Sem.run_pure, run_underlying hu, hpl, hmap, f1]
    · rename_i n el hu
      simp only [Option.bind_eq_some_iff, Option.some.injEq] at hl
      obtain ⟨s, hsz, qs, hq, rfl⟩ := hl
      obtain ⟨q1, q2⟩ := mapO_map hq
      obtain ⟨us, f1, f2⟩ := fill_sound (e := e) (ρ := ρ) (fun i => some (i * s, s)) ps.toList qs z zv.cells hz3 hx q1 (fun j x hj => by
        obtain ⟨y, h1, h2⟩ := q2 j x hj
        simp only [Option.bind_eq_some_iff, Option.some.injEq] at h2
        obtain ⟨y', h3, rfl⟩ := h2
        exact ⟨_, _, y', h1, rfl, h3⟩) hc
      refine ⟨.agg us, w, run_v ?_, same (.agg _ _ f2.1 f2.2)⟩
      simp only [Instr.build, Sem.run_bind, hz1, Result.andThen_ok, Sem.run_pure, run_underlying hu, run_sizeAt hsz, hmap, f1]
    · cases hl
  case buildSlice t n ps =>
    have hx : ∀ x ∈ ps.toList, ∀ y, opd x.2 = some y → VR F w p D (ev e y) (ρ x.2) := fun x hx => ho x.2 (by
      simp only [List.mem_toArray, List.mem_map]; exact ⟨x, hx, rfl⟩)
    split at hl
    · rename_i el hu
      simp only [Option.bind_eq_some_iff, Option.some.injEq] at hl
      obtain ⟨s, hsz, z, hz, qs, hq, rfl⟩ := hl
      obtain ⟨q1, q2⟩ := mapO_map hq
      obtain ⟨b1, b2, b3⟩ := hc
      obtain ⟨u, w', h1, h2⟩ := bslice_sound (t := t) hs hk hu hsz hz hx q1 (fun j x hj => by
        obtain ⟨y, h1, h2⟩ := q2 j x hj
        simp only [Option.bind_eq_some_iff, Option.some.injEq] at h2
        obtain ⟨y', h3, rfl⟩ := h2
        exact ⟨y', h1, h3⟩) b1 b2 b3
      refine ⟨u, w', run_v ?_, h2⟩
      have : ((ps.toList.map fun x => (x.1, ρ x.2)).toArray) = ps.map fun x => (x.1, ρ x.2) := by
        apply Array.ext'; simp
      rw [this] at h1
      exact h1
    · cases hl
  case call c =>
    obtain ⟨callee, args, ats⟩ := c
    have hops : ∀ x ∈ args, ∀ y, opd x = some y → VR F w p D (ev e y) (ρ x) := fun x hx => ho x (by simp [Call.operands, hx])
    simp only [liteCall] at hl
    cases callee with
    | invoke r m => cases hl
    | value f =>
      exfalso
      cases f <;> simp only [Option.map_eq_some_iff, reduceCtorEq] at hl
      · obtain ⟨xs, _, rfl⟩ := hl; exact hc
      · obtain ⟨xs, _, rfl⟩ := hl; exact hc
    | builtin b =>
      have hrun : ∀ {u : Value}, (builtin b ats ty (args.map fun | .const _ => true | _ => false) (args.map ρ)).run P w = .ok (.value u) w →
          (execOp ρ ⟨dst, .call ⟨.builtin b, args, ats⟩, ty, pos, after, guard⟩).run P w = .ok (.value u) w := by
        intro u h
        simp only [execOp, resolve, Sem.run_bind, Sem.run_pure, Result.andThen_ok, invoke]
        exact h
      have one : ∀ {x : Operand}, args.toList = [x] → args = #[x] := fun h => by apply Array.ext'; simpa using h
      have two : ∀ {x y : Operand}, args.toList = [x, y] → args = #[x, y] := fun h => by apply Array.ext'; simpa using h
      cases b <;> simp only [liteB, reduceCtorEq] at hl
      case len =>
        split at hl
        · rename_i x hxs
          obtain rfl := one hxs
          simp only [Option.bind_eq_some_iff] at hl
          obtain ⟨y, hy, hl⟩ := hl
          have v1 := hops x (by simp) y hy
          split at hl
          · rename_i el hu
            cases hl
            obtain ⟨t, ht, hu⟩ := Option.bind_eq_some_iff.1 hu
            have hm : (#[x] : Array Operand).map ρ = #[ρ x] := by simp
            exact ⟨_, w, hrun (run_v (by rw [hm]; exact len_sound hu ht (v1.sv hc.1) hc.2)), same (.int _ _)⟩
          · rename_i hu
            cases hl
            obtain ⟨t, ht, hu⟩ := Option.bind_eq_some_iff.1 hu
            obtain ⟨s, h1, h2⟩ := strOf (v1.sv hc.1) hc.2
            refine ⟨.int .i64 s.size, w, hrun (run_v ?_), same (by simp only [pval, h1, lensV]; exact .int _ _)⟩
            have : #[x].map ρ = #[ρ x] := by simp
            simp [Builtin.len_, ht, run_underlying hu, h2, goInt]
          · cases hl
        · cases hl
      case cap =>
        split at hl
        · rename_i x hxs
          obtain rfl := one hxs
          simp only [Option.bind_eq_some_iff] at hl
          obtain ⟨y, hy, hl⟩ := hl
          have v1 := hops x (by simp) y hy
          split at hl
          · rename_i el hu
            cases hl
            obtain ⟨t, ht, hu⟩ := Option.bind_eq_some_iff.1 hu
            obtain ⟨l1, l2⟩ := hc
            have v2 := v1.sv l1
            simp only [pval, prow]
            have hm : (#[x] : Array Operand).map ρ = #[ρ x] := by simp
            generalize hxx : ρ x = u at v2
            generalize sv e y = v at v2 l2
            cases v2 with
            | nils => exact ⟨.int .i64 0, w, hrun (run_v (by simp [Builtin.cap_, ht, run_underlying hu, hxx, goInt])), same (.int _ _)⟩
            | sl id q i n kc a cap hid hn hk2 ha =>
              cases kc with
              | none => exact l2.elim
              | some m =>
                obtain rfl := hk2 m rfl
                exact ⟨.int .i64 cap, w, hrun (run_v (by simp [Builtin.cap_, ht, run_underlying hu, hxx, goInt])), same (.int _ _)⟩
            | _ => exact l2.elim
          · cases hl
        · cases hl
      case max =>
        split at hl
        · rename_i x y hxs
          obtain rfl := two hxs
          simp only [Option.bind_eq_some_iff, Option.some.injEq] at hl
          obtain ⟨x', hx, y', hy, rfl⟩ := hl
          obtain ⟨l1, l2, b1, b2⟩ := hc
          obtain ⟨k1, a, h1, h2⟩ := intOf' ((hops x (by simp) x' hx).sv l1) b1
          obtain ⟨k2, b, h3, h4⟩ := intOf' ((hops y (by simp) y' hy).sv l2) b2
          exact ⟨.int k1 (if b > a then b else a), w, hrun (run_v (by simp [Builtin.max_, Builtin.max2, h2, h4])), same (by simp only [pval, h1, h3, maxV]; exact .int _ _)⟩
        · cases hl
      case min =>
        split at hl
        · rename_i x y hxs
          obtain rfl := two hxs
          simp only [Option.bind_eq_some_iff, Option.some.injEq] at hl
          obtain ⟨x', hx, y', hy, rfl⟩ := hl
          obtain ⟨l1, l2, b1, b2⟩ := hc
          obtain ⟨k1, a, h1, h2⟩ := intOf' ((hops x (by simp) x' hx).sv l1) b1
          obtain ⟨k2, b, h3, h4⟩ := intOf' ((hops y (by simp) y' hy).sv l2) b2
          exact ⟨.int k1 (if b < a then b else a), w, hrun (run_v (by simp [Builtin.min_, Builtin.min2, h2, h4])), same (by simp only [pval, h1, h3, minV]; exact .int _ _)⟩
        · cases hl
      case append =>
        exfalso
        split at hl
        · simp only [Option.bind_eq_some_iff, Option.some.injEq] at hl
          obtain ⟨x', _, y', _, hl⟩ := hl
          split at hl
          · simp only [Option.bind_eq_some_iff, Option.some.injEq] at hl
            obtain ⟨i, _, z, _, rfl⟩ := hl
            exact hc
          · cases hl
        · cases hl
  case store =>
    obtain ⟨n, _, a, _, x, _, rfl⟩ := hl
    exact hc.elim
end
end Go.Proofs.YtggmkfagcjdifaaDoor.Ai
