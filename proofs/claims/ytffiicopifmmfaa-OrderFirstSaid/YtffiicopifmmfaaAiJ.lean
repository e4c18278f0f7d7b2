/-
  What the operations give, the model gives: the pure ones, whole. Plain facts, no condition.
-/
import Derived.Test.YtffiicopifmmfaaAiI
import Derived.Laws.IdiomStrings
namespace Go.Proofs.Ytffiicopifmmfaa.Ai
set_option linter.unusedSimpArgs false
set_option linter.unusedVariables false
set_option linter.unnecessarySimpa false
set_option linter.unusedSectionVars false
set_option linter.unusedVariables false
set_option linter.unusedSimpArgs false

section
variable {F : Nat → Prop} {w : World} {p : Place} {D : Nat → Prop} {e : Env} {rows : Rows} {P : Program} {k : Nat}

theorem vr_int {kk : IntKind} {n : Int} {u : Value} (h : VR F w p D (.int kk n) u) : u = .int kk n := by cases h; rfl
theorem vr_bool {b : Bool} {u : Value} (h : VR F w p D (.bool b) u) : u = .bool b := by cases h; rfl
theorem vr_str {s : ByteArray} {u : Value} (h : VR F w p D (.str s) u) : u = .string s := by cases h; rfl

theorem els_sound (hs : SRel F w p D rows) {v : AV} {u : Value} {sz : Nat} (hv : VR F w p D v u) (h : elsC rows sz v) :
    ∃ a n cap, u = .slice a n cap ∧ (elsV rows v).length = n ∧ (n = 0 ∨ ∃ (b o : Nat) (c : Array Value) (t : TypeId) (fz : Nat × Nat), a = some ⟨b, o, none⟩ ∧ w.heap[b]? = some (.cells c t fz) ∧ o + n * sz ≤ c.size ∧
      (∀ x ∈ elsV rows v, x.length = sz) ∧ ∀ i x j y, (elsV rows v)[i]? = some x → x[j]? = some y → VR F w p D y (c.getD (o + i * sz + j) undef)) := by
  cases hv with
  | nils => exact ⟨_, _, _, rfl, rfl, .inl rfl⟩
  | roe q a cap => exact ⟨_, _, _, rfl, rfl, .inl rfl⟩
  | rosNil q => exact ⟨_, _, _, rfl, rfl, .inl rfl⟩
  | rosEmp q => exact ⟨_, _, _, rfl, rfl, .inl rfl⟩
  | ros q es b o cap c ty fz hb hF hcap hszs hr hh =>
    obtain rfl : q = sz := h
    exact ⟨_, _, _, rfl, rfl, .inr ⟨b, o, c, ty, fz, rfl, hb, hr, hszs, hh⟩⟩
  | sl id q i n kc a cap hid hn hk ha =>
    simp only [elsC] at h
    cases hl : look rows id with
    | none => rw [hl] at h; exact h.elim
    | some r =>
      rw [hl] at h
      obtain ⟨rfl, rfl, hin⟩ := h
      obtain ⟨_, hnF, hok⟩ := hs.row id r hl
      obtain ⟨c, t, fz, hb, hf, hr, hh⟩ := hok.ex
      simp only [elsV, hl]
      refine ⟨_, _, _, rfl, by simp; omega, ?_⟩
      rcases ha with ha | ⟨c', t', fz', rfl, hb', hr'⟩
      · left; omega
      · right
        have hm1 : (i + n) * r.sz ≤ r.es.length * r.sz := Nat.mul_le_mul_right _ hin
        rw [Nat.add_mul] at hm1
        refine ⟨_, _, c, t, fz, rfl, hb, by omega, fun x hx => hok.sz x (List.mem_of_mem_drop (List.mem_of_mem_take hx)), fun i' x j y hx hj => ?_⟩
        rw [List.getElem?_take, List.getElem?_drop] at hx
        split at hx
        · have := hh _ x j y hx hj
          rwa [Nat.add_mul, ← Nat.add_assoc] at this
        · cases hx
  | _ => exact h.elim

theorem s2b_sound (hs : SRel F w p D rows) (hk : ¬ D k) {src dst el : TypeId} (h1 : P.underlying src = some .string) (h2 : P.underlying dst = some (.slice el)) (h3 : P.underlying el = some (.int .u8))
    {v : AV} {x : Value} (hv : VR F w p D v x) (hc : strIs v) :
    ∃ u w', (convert src dst x).run P w = .ok u w' ∧ PRes F w p D k w' u (s2bR v) (s2bV k v) := by
  cases hv with
  | str s =>
    have hge := grownCap_ge w s.size 0 el
    have hd : s.data.size = s.size := rfl
    have hsz : (bytesRow s (grownCap w s.size 0 el)).size = grownCap w s.size 0 el := by simp [bytesRow, hd]; omega
    refine ⟨_, _, run_bytes_of_string w src dst el s h1 h2 h3, ?_⟩
    refine PRes.row hs hk el (sz := 1) (es := s.data.toList.map fun b => [.int .u8 (b.toNat : Int)]) (by simp) (by rw [hsz]; simp; omega) ?_ ((Grow.drew w).trans (Grow.alloc _ _)) (fz := ((bytesRow s (grownCap w s.size 0 el)).size, (bytesRow s (grownCap w s.size 0 el)).size + 1)) (heap_alloc w.drew _) (.inr (Nat.le_refl _)) hge (by rw [hsz]; omega) (fun m hm => by cases hm)
    intro i x j v hx hj
    rw [List.getElem?_map] at hx
    cases hb : s.data.toList[i]? with
    | none => rw [hb] at hx; cases hx
    | some b =>
      rw [hb] at hx; cases hx
      cases j with
      | succ j => simp at hj
      | zero =>
        simp at hj; subst hj
        have hlt : i < s.data.size := by have := (List.getElem?_eq_some_iff.1 hb).1; simpa using this
        have hlt' : i < (bytesRow s (grownCap w s.size 0 el)).size := by rw [hsz]; omega
        have hval : s.data[i] = b := by have := (List.getElem?_eq_some_iff.1 hb).2; simpa using this
        have : (bytesRow s (grownCap w s.size 0 el)).getD (i * 1 + 0) undef = .int .u8 b.toNat := by
          simp only [Nat.mul_one, Nat.add_zero]
          simp only [bytesRow, Array.getD_eq_getD_getElem?]
          rw [Array.getElem?_append_left (by simpa using hlt), Array.getElem?_map, Array.getElem?_eq_getElem hlt, hval]
          rfl
        rw [this]
        exact .int _ _
  | _ => exact hc.elim

theorem bytes_fold : ∀ (ns : List Int) (s : ByteArray), ns.foldl (fun r n => r.push (UInt8.ofNat n.toNat)) s = ⟨s.data ++ (ns.map fun n => UInt8.ofNat n.toNat).toArray⟩
  | [], s => by simp
  | n :: ns, s => by rw [List.foldl_cons, bytes_fold ns]; simp [ByteArray.push]

theorem b2s_sound (hs : SRel F w p D rows) {src dst el : TypeId} (h1 : P.underlying src = some (.slice el)) (h2 : P.underlying dst = some .string) (h3 : P.underlying el = some (.int .u8))
    {v : AV} {x : Value} (hv : VR F w p D v x) (hc : elsC rows 1 v) (hb : ∀ c ∈ elsV rows v, ∃ y, c = [y] ∧ isByte y) :
    ∃ u, (convert src dst x).run P w = .ok u w ∧ VR F w p D (.str ⟨((elsV rows v).map fun c => byteOf (c.headD .any)).toArray⟩) u := by
  obtain ⟨a, n, cap, rfl, hlen, hn⟩ := els_sound hs hv hc
  have hconv : convert src dst (.slice a n cap) = convert src dst (.slice a n cap) := rfl
  have hrun : (convert src dst (.slice a n cap)).run P w = (Conv.bytesToString (.slice a n cap)).run P w := by
    simp [convert, run_underlying h1, run_underlying h2, run_underlying h3]
  have nums : ∃ ns : List Int, elsV rows v = ns.map (fun m => [AV.int .u8 m]) := by
    clear hlen hn hrun hconv hv
    generalize elsV rows v = es at *
    induction es with
    | nil => exact ⟨[], rfl⟩
    | cons c es ih =>
      obtain ⟨ns, hns⟩ := ih (fun c hc => hb c (by simp [hc]))
      obtain ⟨y, rfl, hy⟩ := hb _ List.mem_cons_self
      cases y with
      | int k m =>
        cases k
        case u8 => exact ⟨m :: ns, by simp [hns]⟩
        all_goals exact hy.elim
      | _ => exact hy.elim
  obtain ⟨ns, hns⟩ := nums
  rw [hrun]
  have hnl : ns.length = n := by rw [← hlen, hns]; simp
  have hval : (AV.str ⟨((elsV rows v).map fun c => byteOf (c.headD .any)).toArray⟩) = .str (ns.foldl (fun r n => r.push (UInt8.ofNat n.toNat)) ByteArray.empty) := by
    rw [bytes_fold, hns, List.map_map]
    congr 2
    show _ = #[] ++ _
    simp [Function.comp_def, byteOf]
  rw [hval]
  have hload : ∀ b : Addr, a = some b → (loadCells b n).run P w = .ok (ns.map (Value.int .u8)).toArray w := by
    intro b ha
    rcases hn with rfl | ⟨bb, o, c, t, fz, e1, hb', hr, hsz, hh⟩
    · obtain rfl : ns = [] := List.eq_nil_of_length_eq_zero hnl
      simp [loadCells, loadCellsFrom]
    · rw [e1] at ha; cases ha
      rw [run_loadCells_of hb' (by omega)]
      congr 2
      apply List.ext_getElem?
      intro j
      by_cases hj : j < n
      · have hx : (elsV rows v)[j]? = some [AV.int .u8 (ns[j]'(by omega))] := by rw [hns]; simp [show j < ns.length by omega]
        have := hh j _ 0 _ hx rfl
        rw [Nat.mul_one, Nat.add_zero] at this
        have he : c.getD (o + j) undef = .int .u8 (ns[j]'(by omega)) := by
          generalize c.getD (o + j) undef = z at this ⊢
          cases this; rfl
        rw [List.getElem?_map, List.getElem?_range hj, Option.map_some, he, List.getElem?_map, List.getElem?_eq_getElem (by omega)]
        rfl
      · simp [hj, show ¬ j < ns.length by omega]
  cases a with
  | none =>
    rcases hn with rfl | ⟨_, _, _, _, _, e1, _⟩
    · obtain rfl : ns = [] := List.eq_nil_of_length_eq_zero hnl
      exact ⟨_, rfl, .str _⟩
    · cases e1
  | some b => exact ⟨_, run_bytesToString w b n cap ns (hload b rfl), .str _⟩

theorem sls_sound {t : TypeId} (hu : P.underlying t = some .string) {v : AV} {u : Value} (hv : VR F w p D v u) {lo hi : Option Opd} {ρ : Operand → Value} {lo' hi' : Option Operand} (e : Env)
    (hlo : optOpd lo' = some lo) (hhi : optOpd hi' = some hi) (ho : ∀ x, (lo' = some x ∨ hi' = some x) → ∀ y, opd x = some y → VR F w p D (ev e y) (ρ x)) (hl : boundL e lo) (hh : boundL e hi)
    (hc : slsC e lo hi v) : ∃ r, (Instr.sliceAt t u (lo'.map ρ) (hi'.map ρ) none).run P w = .ok r w ∧ VR F w p D (slsV e lo hi v) r := by
  cases hv with
  | str s =>
    simp only [slsC] at hc
    have blo : (lo' = none ∧ bound e 0 lo = .int .i64 0) ∨ ∃ x y, lo' = some x ∧ opd x = some y ∧ bound e 0 lo = sv e y ∧ VR F w p D (sv e y) (ρ x) := by
      cases lo' with
      | none => simp only [optOpd, Option.some.injEq] at hlo; subst hlo; exact .inl ⟨rfl, rfl⟩
      | some x =>
        simp only [optOpd] at hlo
        cases hx : opd x with
        | none => rw [hx] at hlo; cases hlo
        | some y => rw [hx] at hlo; cases hlo; exact .inr ⟨x, y, rfl, hx, rfl, (ho x (.inl rfl) y hx).sv hl⟩
    have bhi : (hi' = none ∧ bound e s.size hi = .int .i64 s.size) ∨ ∃ x y, hi' = some x ∧ opd x = some y ∧ bound e s.size hi = sv e y ∧ VR F w p D (sv e y) (ρ x) := by
      cases hi' with
      | none => simp only [optOpd, Option.some.injEq] at hhi; subst hhi; exact .inl ⟨rfl, rfl⟩
      | some x =>
        simp only [optOpd] at hhi
        cases hx : opd x with
        | none => rw [hx] at hhi; cases hhi
        | some y => rw [hx] at hhi; cases hhi; exact .inr ⟨x, y, rfl, hx, rfl, (ho x (.inr rfl) y hx).sv hh⟩
    refine ⟨.string (s.extract (intOr (bound e 0 lo)).toNat (intOr (bound e s.size hi)).toNat), ?_, .str _⟩
    revert hc
    rcases blo with ⟨rfl, e1⟩ | ⟨x, y, rfl, e1, e2, e3⟩
    · rcases bhi with ⟨rfl, f1⟩ | ⟨z, q, rfl, f1, f2, f3⟩
      · rw [e1, f1]; intro hc
        simp [Instr.sliceAt, run_underlying hu, Instr.slice, Instr.sliceBounds, intOr]
      · rw [e1, f2]; intro hc
        obtain ⟨k2, h, hq⟩ : ∃ k2 h, sv e q = .int k2 h := by revert hc; cases sv e q <;> intro hc <;> first | exact ⟨_, _, rfl⟩ | exact hc.elim
        rw [hq] at f3 hc ⊢
        have hz := vr_int f3
        obtain ⟨h0, h1, h2⟩ := hc
        have hhc : 0 ≤ h ∧ h ≤ s.size := by omega
        simp [hz, Instr.sliceAt, run_underlying hu, Instr.slice, Instr.sliceBounds, intOr, Instr.sliceBound, asIntOf, hhc]
    · rcases bhi with ⟨rfl, f1⟩ | ⟨z, q, rfl, f1, f2, f3⟩
      · rw [e2, f1]; intro hc
        obtain ⟨k2, h, hq⟩ : ∃ k2 h, sv e y = .int k2 h := by revert hc; cases sv e y <;> intro hc <;> first | exact ⟨_, _, rfl⟩ | exact hc.elim
        rw [hq] at e3 hc ⊢
        have hz := vr_int e3
        obtain ⟨h0, h1, h2⟩ := hc
        have hhc : 0 ≤ h ∧ h ≤ s.size := by omega
        simp [hz, Instr.sliceAt, run_underlying hu, Instr.slice, Instr.sliceBounds, intOr, Instr.sliceBound, asIntOf, hhc]
      · rw [e2, f2]; intro hc
        obtain ⟨k1, l, hy⟩ : ∃ k2 h, sv e y = .int k2 h := by revert hc; cases sv e y <;> intro hc <;> first | exact ⟨_, _, rfl⟩ | exact hc.elim
        rw [hy] at e3 hc ⊢
        obtain ⟨k2, h, hq⟩ : ∃ k2 h, sv e q = .int k2 h := by revert hc; cases sv e q <;> intro hc <;> first | exact ⟨_, _, rfl⟩ | exact hc.elim
        rw [hq] at f3 hc ⊢
        have hx := vr_int e3
        have hz := vr_int f3
        obtain ⟨h0, h1, h2⟩ := hc
        have hhc : 0 ≤ h ∧ h ≤ s.size := by omega
        have hlc : 0 ≤ l ∧ l ≤ h.toNat := by omega
        simp only [Option.map_some, hx, hz, Instr.sliceAt, Sem.run_bind, run_underlying hu, Result.andThen_ok, Instr.slice, Instr.sliceBounds, Instr.sliceBound, asIntOf, Sem.run_pure, if_pos hhc, if_pos hlc, intOr]
        simp [hhc, hlc]
        intro hm; exfalso; omega
  | _ => exact hc.elim
end
end Go.Proofs.Ytffiicopifmmfaa.Ai
