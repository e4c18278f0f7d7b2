/-
  What the operations give, the model gives: all pure operations in one. Plain facts, no condition.
-/
import Derived.Test.YtffiicopifmmfaaAiK
namespace Go.Proofs.Ytffiicopifmmfaa.Ai
set_option linter.unusedSimpArgs false
set_option linter.unusedVariables false
set_option linter.unnecessarySimpa false
set_option linter.unusedSectionVars false
set_option linter.unusedVariables false
set_option linter.unusedSimpArgs false

section
variable {F : Nat → Prop} {w : World} {p : Place} {D : Nat → Prop} {e : Env} {rows : Rows} {P : Program} {k : Nat}

theorem eqGuard_none {op : BinOp} {t : TypeId} {x y : Operand} {a b : Value} (h1 : ∀ c, a ≠ .agg c) (h2 : a ≠ .nilIface) : (eqGuard op t x y a b).run P w = .ok () w := by
  unfold eqGuard
  cases op
  case eql => cases a <;> first | (exfalso; exact h2 rfl) | (exfalso; exact h1 _ rfl) | (cases b <;> simp)
  case neq => cases a <;> first | (exfalso; exact h2 rfl) | (exfalso; exact h1 _ rfl) | (cases b <;> simp)
  all_goals simp

theorem run_bin {op : BinOp} {t yt : TypeId} {x y : Operand} {ρ : Operand → Value} {r : Value} (h1 : ∀ c, ρ x ≠ .agg c) (h2 : ρ x ≠ .nilIface) (h : (binOp op t (ρ x) (ρ y)).run P w = .ok r w)
    (dst : Option Tmp) (ty : TypeId) (pos : String) (after : Array Edge) (guard : Option (Nat × Bool)) :
    (execOp ρ ⟨dst, .binOp op t x y yt, ty, pos, after, guard⟩).run P w = .ok (.value r) w := by
  simp only [execOp, Sem.run_bind, eqGuard_none h1 h2, Result.andThen_ok, h, Sem.run_pure]

theorem pure_sound {o : Oper} {r : ROp} {ρ : Operand → Value} (hs : SRel F w p D rows) (hk : ¬ D k) (hl : liteOp P o.op = some r)
    (ho : ∀ x ∈ o.op.operands, ∀ y, opd x = some y → VR F w p D (ev e y) (ρ x)) (hc : pcond e rows r) :
    ∃ u w', (execOp ρ o).run P w = .ok (.value u) w' ∧ PRes F w p D k w' u (prow e rows r) (pval e rows k r) := by
  obtain ⟨dst, op, ty, pos, after, guard⟩ := o
  have same : ∀ {v : AV} {u : Value}, VR F w p D v u → PRes F w p D k w u none v := fun h => .same hs hk h
  cases op <;> simp only [liteOp, bind, Option.bind_eq_some_iff, Option.some.injEq, reduceCtorEq] at hl <;> simp only [Op.operands] at ho
  case move x =>
    obtain ⟨y, hy, rfl⟩ := hl
    exact ⟨_, w, rfl, same (ho x (by simp) y hy)⟩
  case assign x =>
    obtain ⟨y, hy, rfl⟩ := hl
    exact ⟨_, w, rfl, same (ho x (by simp) y hy)⟩
  case pick c a b =>
    obtain ⟨c', hc', a', ha', b', hb', rfl⟩ := hl
    obtain ⟨l1, hp⟩ := hc
    have v1 := (ho c (by simp) c' hc').sv l1
    simp only [pval, prow]
    cases hcv : sv e c' with
    | bool t =>
      rw [hcv] at v1 hp
      have hb := vr_bool v1
      refine ⟨if t then ρ a else ρ b, w, by simp [execOp, hb, asBool], same ?_⟩
      exact VR.sel (fun h => (ho a (by simp) a' ha').sv (hp.1 h)) (fun h => (ho b (by simp) b' hb').sv (hp.2 h))
    | _ => rw [hcv] at hp; exact hp.elim
  case nilCheck x =>
    obtain ⟨y, hy, rfl⟩ := hl
    obtain ⟨l1, hp⟩ := hc
    have v1 := (ho x (by simp) y hy).sv l1
    simp only [pval, prow]
    refine ⟨ρ x, w, ?_, same v1⟩
    generalize sv e y = v at v1 hp
    generalize hx : ρ x = u at v1
    cases v1 with
    | rop => simp [execOp, hx]
    | pt => simp [execOp, hx]
    | fn f xs ys us vs => cases f <;> first | exact hp.elim | simp [execOp, hx]
    | _ => exact hp.elim
  case alloc t =>
    obtain ⟨z, hz, rfl⟩ := hl
    obtain ⟨u, w', h1, h2⟩ := alloc_sound (D := D) hs hk hz (.tuple #[])
    exact ⟨u, w', run_v h1, h2⟩
  case box t x =>
    obtain ⟨y, hy, rfl⟩ := hl
    obtain ⟨l1, hp⟩ := hc
    obtain ⟨u, w', h1, h2⟩ := box_sound hs hk t ((ho x (by simp) y hy).sv l1) hp
    exact ⟨u, w', run_v h1, h2⟩
  case load t x =>
    obtain ⟨g, hg, s, hsz, hif⟩ := hl
    split at hif
    · rename_i hgs
      simp only [bind, Option.bind_eq_some_iff, Option.some.injEq] at hif
      obtain ⟨y, hy, rfl⟩ := hif
      obtain ⟨l1, hp⟩ := hc
      obtain ⟨u, h1, h2⟩ := ld_sound hs ((ho x (by simp) y hy).sv l1) hp hg hsz (by simpa using hgs)
      exact ⟨u, w, run_v h1, same h2⟩
    · cases hif
  case fieldAddr s x f =>
    split at hl
    · rename_i fs hu
      simp only [bind, Option.bind_eq_some_iff, Option.some.injEq] at hl
      obtain ⟨fl, hf, n, hn, hif⟩ := hl
      split at hif
      · cases hif
      · rename_i h0
        simp only [bind, Option.bind_eq_some_iff, Option.some.injEq] at hif
        obtain ⟨y, hy, rfl⟩ := hif
        obtain ⟨l1, hp⟩ := hc
        obtain ⟨u, h1, h2⟩ := fa_sound hs ((ho x (by simp) y hy).sv l1) hu hf hn h0 hp
        exact ⟨u, w, run_v h1, same h2⟩
    · cases hl
  case field s x f =>
    split at hl
    · rename_i fs hu
      simp only [bind, Option.bind_eq_some_iff, Option.some.injEq] at hl
      obtain ⟨fl, hf, n, hn, g, hg, hif⟩ := hl
      split at hif
      · rename_i hgs
        simp only [bind, Option.bind_eq_some_iff, Option.some.injEq] at hif
        obtain ⟨y, hy, rfl⟩ := hif
        obtain ⟨l1, hp⟩ := hc
        have v1 := (ho x (by simp) y hy).sv l1
        simp only [pval, prow]
        cases hv : sv e y with
        | agg cs =>
          rw [hv] at v1 hp
          obtain ⟨us, hus, hcs⟩ := aggOf v1
          obtain ⟨u, h1, h2⟩ := part_sound (P := P) hcs hg hn (by simpa using hgs) hp
          refine ⟨u, w, run_v ?_, same h2⟩
          simp only [Instr.field, Sem.run_bind, run_underlying hu, Result.andThen_ok, hf, hus, asAgg, Sem.run_pure, h1]
        | _ => rw [hv] at hp; exact hp.elim
      · cases hif
    · cases hl
  case indexAddr t x i =>
    split at hl
    · rename_i el hu
      simp only [bind, Option.bind_eq_some_iff, Option.some.injEq] at hl
      obtain ⟨n, hn, y, hy, i', hi', rfl⟩ := hl
      obtain ⟨l1, l2, hp⟩ := hc
      obtain ⟨u, h1, h2⟩ := ias_sound hs ((ho x (by simp) y hy).sv l1) ((ho i (by simp) i' hi').sv l2) hu hn hp
      exact ⟨u, w, run_v h1, same h2⟩
    · rename_i len el hu
      simp only [bind, Option.bind_eq_some_iff, Option.some.injEq] at hl
      obtain ⟨n, hn, y, hy, i', hi', rfl⟩ := hl
      obtain ⟨l1, l2, hp⟩ := hc
      obtain ⟨u, h1, h2⟩ := iaa_sound hs ((ho x (by simp) y hy).sv l1) ((ho i (by simp) i' hi').sv l2) hu hn hp
      exact ⟨u, w, run_v h1, same h2⟩
    · cases hl
  case index t x i =>
    split at hl
    · rename_i len el hu
      simp only [bind, Option.bind_eq_some_iff, Option.some.injEq] at hl
      obtain ⟨n, hn, g, hg, hif⟩ := hl
      split at hif
      · rename_i hgs
        simp only [bind, Option.bind_eq_some_iff, Option.some.injEq] at hif
        obtain ⟨y, hy, i', hi', rfl⟩ := hif
        obtain ⟨l1, l2, hp⟩ := hc
        have v1 := (ho x (by simp) y hy).sv l1
        have v2 := (ho i (by simp) i' hi').sv l2
        simp only [pval, prow]
        cases hv : sv e y with
        | agg cs =>
          rw [hv] at v1 hp
          cases hi : sv e i' with
          | int kk m =>
            rw [hi] at v2 hp
            obtain ⟨us, hus, hcs⟩ := aggOf v1
            obtain ⟨h0, h1, h2⟩ := hp
            obtain ⟨u, h3, h4⟩ := part_sound (P := P) hcs hg hn (by simpa using hgs) h2
            refine ⟨u, w, run_v ?_, same h4⟩
            simp only [Instr.index, Sem.run_bind, run_underlying hu, Result.andThen_ok, vr_int v2, hus, asIntOf, Sem.run_pure, h3, if_pos (And.intro h0 h1), run_sizeAt hn]
          | _ => rw [hi] at hp; exact hp.elim
        | _ => rw [hv] at hp; exact hp.elim
      · cases hif
    · rename_i hu
      simp only [bind, Option.bind_eq_some_iff, Option.some.injEq] at hl
      obtain ⟨y, hy, i', hi', rfl⟩ := hl
      obtain ⟨l1, l2, hp⟩ := hc
      have v1 := (ho x (by simp) y hy).sv l1
      have v2 := (ho i (by simp) i' hi').sv l2
      simp only [pval, prow]
      cases hv : sv e y with
      | str s =>
        rw [hv] at v1 hp
        cases hi : sv e i' with
        | int kk m =>
          rw [hi] at v2 hp
          obtain ⟨h0, h1⟩ := hp
          have hlt : m.toNat < s.size := by omega
          refine ⟨.int .u8 ((s.data.toList.getD m.toNat 0).toNat : Int), w, run_v ?_, same (.int _ _)⟩
          have hget : s[m.toNat]? = some (s.data.toList.getD m.toNat 0) := by
            rw [getElem?_pos s m.toNat hlt]
            have hd : m.toNat < s.data.toList.length := by simpa using hlt
            have : s[m.toNat] = s.data.toList[m.toNat] := rfl
            rw [this, List.getD, List.getElem?_eq_getElem hd]; rfl
          simp only [Instr.index, Sem.run_bind, run_underlying hu, Result.andThen_ok, vr_int v2, vr_str v1, asIntOf, Sem.run_pure, if_pos h0, hget]
        | _ => rw [hi] at hp; exact hp.elim
      | _ => rw [hv] at hp; exact hp.elim
    · cases hl
  case extract x i =>
    obtain ⟨y, hy, rfl⟩ := hl
    obtain ⟨l1, hp⟩ := hc
    have v1 := (ho x (by simp) y hy).sv l1
    simp only [pval, prow]
    cases hv : sv e y with
    | tup cs =>
      rw [hv] at v1 hp
      obtain ⟨us, hus, hcs⟩ := tupOf v1
      have hp' : i < cs.length := hp
      have hlt : i < us.size := by rw [hcs.1]; exact hp'
      refine ⟨us[i], w, run_v ?_, same ?_⟩
      · simp [Instr.extract, hus, hlt]
      · have := hcs.2 i _ (List.getElem?_eq_getElem hp')
        simpa [extV, hlt, hp'] using this
    | _ => rw [hv] at hp; exact hp.elim
  case binOp op t x y yt =>
    split at hl
    · rename_i hu
      simp only [bind, Option.bind_eq_some_iff, Option.some.injEq] at hl
      obtain ⟨x', hx', y', hy', rfl⟩ := hl
      obtain ⟨l1, l2, b1, b2⟩ := hc
      obtain ⟨a, ha, ha'⟩ := boolIs ((ho x (by simp) x' hx').sv l1) b1
      obtain ⟨b, hb, hb'⟩ := boolIs ((ho y (by simp) y' hy').sv l2) b2
      have := eqb_sound (P := P) (w := w) (a := a) (b := b) (neg := false) hu
      rw [← ha', ← hb'] at this
      exact ⟨_, w, run_bin (by rw [ha']; simp) (by rw [ha']; simp) this _ _ _ _ _, same (by simp only [pval, ha, hb, eqbV]; exact .bool _)⟩
    · rename_i hu
      simp only [bind, Option.bind_eq_some_iff, Option.some.injEq] at hl
      obtain ⟨x', hx', y', hy', rfl⟩ := hl
      obtain ⟨l1, l2, b1, b2⟩ := hc
      obtain ⟨a, ha, ha'⟩ := boolIs ((ho x (by simp) x' hx').sv l1) b1
      obtain ⟨b, hb, hb'⟩ := boolIs ((ho y (by simp) y' hy').sv l2) b2
      have := eqb_sound (P := P) (w := w) (a := a) (b := b) (neg := true) hu
      rw [← ha', ← hb'] at this
      exact ⟨_, w, run_bin (by rw [ha']; simp) (by rw [ha']; simp) this _ _ _ _ _, same (by simp only [pval, ha, hb, eqbV]; exact .bool _)⟩
    · rename_i el hu
      simp only [bind, Option.bind_eq_some_iff, Option.some.injEq] at hl
      obtain ⟨x', hx', y', hy', rfl⟩ := hl
      obtain ⟨l1, l2, b1, b2⟩ := hc
      have v2 := (ho y (by simp) y' hy').sv l2
      have hy0 : ρ y = .slice none 0 0 := by
        revert b2 v2; generalize sv e y' = v; generalize ρ y = u
        intro b2 v2; cases v2 <;> first | rfl | exact b2.elim
      obtain ⟨h1, h2, h3⟩ := eqn_sound (P := P) (neg := false) hu ((ho x (by simp) x' hx').sv l1) b1
      rw [← hy0] at h1
      exact ⟨_, w, run_bin h2 h3 h1 _ _ _ _ _, same (.bool _)⟩
    · rename_i el hu
      simp only [bind, Option.bind_eq_some_iff, Option.some.injEq] at hl
      obtain ⟨x', hx', y', hy', rfl⟩ := hl
      obtain ⟨l1, l2, b1, b2⟩ := hc
      have v2 := (ho y (by simp) y' hy').sv l2
      have hy0 : ρ y = .slice none 0 0 := by
        revert b2 v2; generalize sv e y' = v; generalize ρ y = u
        intro b2 v2; cases v2 <;> first | rfl | exact b2.elim
      obtain ⟨h1, h2, h3⟩ := eqn_sound (P := P) (neg := true) hu ((ho x (by simp) x' hx').sv l1) b1
      rw [← hy0] at h1
      exact ⟨_, w, run_bin h2 h3 h1 _ _ _ _ _, same (.bool _)⟩
    · simp only [bind, Option.bind_eq_some_iff, Option.some.injEq] at hl
      obtain ⟨x', hx', y', hy', rfl⟩ := hl
      obtain ⟨l1, l2, b1⟩ := hc
      obtain ⟨r, h1, h2, h3, h4⟩ := bin_sound (P := P) (t := t) ((ho x (by simp) x' hx').sv l1) ((ho y (by simp) y' hy').sv l2) b1
      exact ⟨r, w, run_bin h3 h4 h1 _ _ _ _ _, same h2⟩
    · simp only [bind, Option.bind_eq_some_iff, Option.some.injEq] at hl
      obtain ⟨x', hx', y', hy', rfl⟩ := hl
      obtain ⟨l1, l2, b1⟩ := hc
      obtain ⟨r, h1, h2, h3, h4⟩ := bin_sound (P := P) (t := t) ((ho x (by simp) x' hx').sv l1) ((ho y (by simp) y' hy').sv l2) b1
      exact ⟨r, w, run_bin h3 h4 h1 _ _ _ _ _, same h2⟩
    · cases hl
  case unOp uop t x =>
    cases uop <;> simp only [bind, Option.bind_eq_some_iff, Option.some.injEq, reduceCtorEq] at hl
    case not =>
      obtain ⟨x', hx', rfl⟩ := hl
      obtain ⟨l1, b1⟩ := hc
      obtain ⟨a, ha, ha'⟩ := boolIs ((ho x (by simp) x' hx').sv l1) b1
      exact ⟨_, w, run_v (by rw [ha']; rfl), same (by simp only [pval, ha, notV]; exact .bool _)⟩
    case neg =>
      obtain ⟨x', hx', rfl⟩ := hl
      obtain ⟨l1, b1⟩ := hc
      obtain ⟨kk, n, ha, ha'⟩ := intOf' ((ho x (by simp) x' hx').sv l1) b1
      exact ⟨_, w, run_v (by rw [ha']; rfl), same (by simp only [pval, ha, negV]; exact .int _ _)⟩
  case convert s d x =>
    obtain ⟨x', hx', hl⟩ := hl
    split at hl
    · rename_i k1 k2 hs' hd'
      cases hl
      obtain ⟨l1, b1⟩ := hc
      obtain ⟨kk, n, ha, ha'⟩ := intOf' ((ho x (by simp) x' hx').sv l1) b1
      exact ⟨.int k2 (k2.wrap n), w, run_v (by rw [ha']; simp [convert, run_underlying hs', run_underlying hd', Conv.intToInt]), same (by simp only [pval, ha, cvV]; exact .int _ _)⟩
    · rename_i el hs' hd'
      split at hl
      · rename_i he
        cases hl
        obtain ⟨l1, b1, b2⟩ := hc
        obtain ⟨u, h1, h2⟩ := b2s_sound hs hs' hd' he ((ho x (by simp) x' hx').sv l1) b1 b2
        exact ⟨u, w, run_v h1, same h2⟩
      · cases hl
    · rename_i el hs' hd'
      split at hl
      · rename_i he
        cases hl
        obtain ⟨l1, b1⟩ := hc
        obtain ⟨u, w', h1, h2⟩ := s2b_sound hs hk hs' hd' he ((ho x (by simp) x' hx').sv l1) b1
        exact ⟨u, w', run_v h1, h2⟩
      · cases hl
    · cases hl
  case makeFunc f xs ys =>
    cases f <;> simp only [bind, Option.bind_eq_some_iff, Option.some.injEq, reduceCtorEq] at hl
    obtain ⟨xs', hxs, ys', hys, rfl⟩ := hl
    obtain ⟨l1, l2⟩ := hc
    have h1 := list_ok hxs (fun x hx => ho x (by simp [hx])) l1
    have h2 := list_ok hys (fun x hx => ho x (by simp [hx])) l2
    exact ⟨_, w, rfl, same (.fn _ _ _ _ _ h1.1 h2.1 h1.2 h2.2)⟩
  case makeInterface t x =>
    split at hl
    · cases hl
    · rename_i d hne hu
      simp only [bind, Option.bind_eq_some_iff, Option.some.injEq] at hl
      obtain ⟨x', hx', rfl⟩ := hl
      refine ⟨.iface t (ρ x), w, run_v ?_, same (.ifc _ _ _ ((ho x (by simp) x' hx').sv hc))⟩
      simp only [Instr.makeInterface, Sem.run_bind, run_underlying hu, Result.andThen_ok]
      cases d <;> first | rfl | exact absurd hu (hne _)
    · cases hl
  case slice t x lo hi mx =>
    cases mx <;> simp only [bind, Option.bind_eq_some_iff, Option.some.injEq, reduceCtorEq] at hl
    split at hl
    · rename_i el hu
      simp only [bind, Option.bind_eq_some_iff, Option.some.injEq] at hl
      obtain ⟨n, hn, x', hx', lo', hlo, hi', hhi, rfl⟩ := hl
      obtain ⟨l1, l2, l3, b1, b2, b3⟩ := hc
      have v1 := (ho x (by simp) x' hx').sv l1
      have g1 := bnd_ok (d := 0) hlo (fun y hy => ho y (by simp [hy])) l2
      have g2 := bnd_ok (d := (lenV (sv e x')).toNat) hhi (fun y hy => ho y (by simp [hy])) l3
      have hnn : ((lenV (sv e x')).toNat : Int) = lenV (sv e x') := by
        have : 0 ≤ lenV (sv e x') := by cases sv e x' <;> simp [lenV]
        omega
      rw [hnn] at g2
      obtain ⟨u, h1, h2⟩ := slc_sound hs hu hn v1 (g1.imp (fun h => h) (fun h => h)) (g2.imp (fun h => h) (fun h => h)) b1 b2 b3
      exact ⟨u, w, run_v h1, same h2⟩
    · rename_i hu
      simp only [bind, Option.bind_eq_some_iff, Option.some.injEq] at hl
      obtain ⟨x', hx', lo', hlo, hi', hhi, rfl⟩ := hl
      obtain ⟨l1, l2, l3, b1⟩ := hc
      have v1 := (ho x (by simp) x' hx').sv l1
      obtain ⟨u, h1, h2⟩ := sls_sound hu v1 e hlo hhi (fun y hy => ho y (by rcases hy with hy | hy <;> simp [hy])) l2 l3 b1
      exact ⟨u, w, run_v h1, same h2⟩
    · cases hl
  case makeSlice t n c =>
    split at hl
    · rename_i el hu
      simp only [bind, Option.bind_eq_some_iff, Option.some.injEq] at hl
      obtain ⟨i, hi, z, hz, n', hn', c', hc', rfl⟩ := hl
      obtain ⟨l1, l2, b1, b2⟩ := hc
      obtain ⟨u, w', h1, h2⟩ := mks_sound hs hk hu hi hz ((ho n (by simp) n' hn').sv l1) ((ho c (by simp) c' hc').sv l2) b1 b2
      exact ⟨u, w', run_v h1, h2⟩
    · cases hl
  case build t ps =>
    obtain ⟨z, hz, hl⟩ := hl
    have hx : ∀ x ∈ ps.toList, ∀ y, opd x.2 = some y → VR F w p D (ev e y) (ρ x.2) := fun x hx => ho x.2 (by
      simp only [List.mem_toArray, List.mem_map]; exact ⟨x, hx, rfl⟩)
    obtain ⟨zv, hz1, hz2⟩ := run_zero hz w
    have hz3 := vr_list (F := F) (w := w) (p := p) (D := D) hz2
    have hmap : (ps.map fun x => (x.1, ρ x.2)).toList = ps.toList.map fun x => (x.1, ρ x.2) := by simp
    split at hl
    · rename_i fs hu
      simp only [Option.bind_eq_some_iff, Option.some.injEq] at hl
      obtain ⟨ns, hns, qs, hq, rfl⟩ := hl
      obtain ⟨q1, q2⟩ := mapO_map hq
      have hpl := run_placesA (P := P) (w := w) hns
      obtain ⟨us, f1, f2⟩ := fill_sound (e := e) (ρ := ρ) ((fs.map fun f => (f.offset, (sizeAt P f.type).getD 0))[·]?) ps.toList qs z zv.cells hz3 hx q1 (fun j x hj => by
        obtain ⟨y, h1, h2⟩ := q2 j x hj
        simp only [Option.bind_eq_some_iff, Option.some.injEq] at h2
        obtain ⟨f, h3, n, h4, y', h5, rfl⟩ := h2
        exact ⟨_, _, y', h1, by simp [h3, h4], h5⟩) hc
      refine ⟨.agg us, w, run_v ?_, same (.agg _ _ f2.1 f2.2)⟩
      simp only [Instr.build, Sem.run_bind, hz1, Result.andThen_ok, Sem.run_pure, run_underlying hu, hpl, hmap, f1]
    · rename_i n el hu
      simp only [Option.bind_eq_some_iff, Option.some.injEq] at hl
      obtain ⟨s, hsz, qs, hq, rfl⟩ := hl
      obtain ⟨q1, q2⟩ := mapO_map hq
      obtain ⟨us, f1, f2⟩ := fill_sound (e := e) (ρ := ρ) (fun i => some (i * s, s)) ps.toList qs z zv.cells hz3 hx q1 (fun j x hj => by
        obtain ⟨y, h1, h2⟩ := q2 j x hj
        simp only [Option.bind_eq_some_iff, Option.some.injEq] at h2
        obtain ⟨y', h3, rfl⟩ := h2
        exact ⟨_, _, y', h1, rfl, h3⟩) hc
      refine ⟨.agg us, w, run_v ?_, same (.agg _ _ f2.1 f2.2)⟩
      simp only [Instr.build, Sem.run_bind, hz1, Result.andThen_ok, Sem.run_pure, run_underlying hu, run_sizeAt hsz, hmap, f1]
    · cases hl
  case buildSlice t n ps =>
    have hx : ∀ x ∈ ps.toList, ∀ y, opd x.2 = some y → VR F w p D (ev e y) (ρ x.2) := fun x hx => ho x.2 (by
      simp only [List.mem_toArray, List.mem_map]; exact ⟨x, hx, rfl⟩)
    split at hl
    · rename_i el hu
      simp only [Option.bind_eq_some_iff, Option.some.injEq] at hl
      obtain ⟨s, hsz, z, hz, qs, hq, rfl⟩ := hl
      obtain ⟨q1, q2⟩ := mapO_map hq
      obtain ⟨b1, b2, b3⟩ := hc
      obtain ⟨u, w', h1, h2⟩ := bslice_sound (t := t) hs hk hu hsz hz hx q1 (fun j x hj => by
        obtain ⟨y, h1, h2⟩ := q2 j x hj
        simp only [Option.bind_eq_some_iff, Option.some.injEq] at h2
        obtain ⟨y', h3, rfl⟩ := h2
        exact ⟨y', h1, h3⟩) b1 b2 b3
      refine ⟨u, w', run_v ?_, h2⟩
      have : ((ps.toList.map fun x => (x.1, ρ x.2)).toArray) = ps.map fun x => (x.1, ρ x.2) := by
        apply Array.ext'; simp
      rw [this] at h1
      exact h1
    · cases hl
  case call c =>
    obtain ⟨callee, args, ats⟩ := c
    have hops : ∀ x ∈ args, ∀ y, opd x = some y → VR F w p D (ev e y) (ρ x) := fun x hx => ho x (by simp [Call.operands, hx])
    simp only [liteCall] at hl
    cases callee with
    | invoke r m => cases hl
    | value f =>
      exfalso
      cases f <;> simp only [Option.map_eq_some_iff, reduceCtorEq] at hl
      · obtain ⟨xs, _, rfl⟩ := hl; exact hc
      · obtain ⟨xs, _, rfl⟩ := hl; exact hc
    | builtin b =>
      have hrun : ∀ {u : Value}, (builtin b ats ty (args.map fun | .const _ => true | _ => false) (args.map ρ)).run P w = .ok (.value u) w →
          (execOp ρ ⟨dst, .call ⟨.builtin b, args, ats⟩, ty, pos, after, guard⟩).run P w = .ok (.value u) w := by
        intro u h
        simp only [execOp, resolve, Sem.run_bind, Sem.run_pure, Result.andThen_ok, invoke]
        exact h
      have one : ∀ {x : Operand}, args.toList = [x] → args = #[x] := fun h => by apply Array.ext'; simpa using h
      have two : ∀ {x y : Operand}, args.toList = [x, y] → args = #[x, y] := fun h => by apply Array.ext'; simpa using h
      cases b <;> simp only [liteB, reduceCtorEq] at hl
      case len =>
        split at hl
        · rename_i x hxs
          obtain rfl := one hxs
          simp only [Option.bind_eq_some_iff] at hl
          obtain ⟨y, hy, hl⟩ := hl
          have v1 := hops x (by simp) y hy
          split at hl
          · rename_i el hu
            cases hl
            obtain ⟨t, ht, hu⟩ := Option.bind_eq_some_iff.1 hu
            have hm : (#[x] : Array Operand).map ρ = #[ρ x] := by simp
            exact ⟨_, w, hrun (run_v (by rw [hm]; exact len_sound hu ht (v1.sv hc.1) hc.2)), same (.int _ _)⟩
          · rename_i hu
            cases hl
            obtain ⟨t, ht, hu⟩ := Option.bind_eq_some_iff.1 hu
            obtain ⟨s, h1, h2⟩ := strOf (v1.sv hc.1) hc.2
            refine ⟨.int .i64 s.size, w, hrun (run_v ?_), same (by simp only [pval, h1, lensV]; exact .int _ _)⟩
            have : #[x].map ρ = #[ρ x] := by simp
            simp [Builtin.len_, ht, run_underlying hu, h2, goInt]
          · cases hl
        · cases hl
      case cap =>
        split at hl
        · rename_i x hxs
          obtain rfl := one hxs
          simp only [Option.bind_eq_some_iff] at hl
          obtain ⟨y, hy, hl⟩ := hl
          have v1 := hops x (by simp) y hy
          split at hl
          · rename_i el hu
            cases hl
            obtain ⟨t, ht, hu⟩ := Option.bind_eq_some_iff.1 hu
            obtain ⟨l1, l2⟩ := hc
            have v2 := v1.sv l1
            simp only [pval, prow]
            have hm : (#[x] : Array Operand).map ρ = #[ρ x] := by simp
            generalize hxx : ρ x = u at v2
            generalize sv e y = v at v2 l2
            cases v2 with
            | nils => exact ⟨.int .i64 0, w, hrun (run_v (by simp [Builtin.cap_, ht, run_underlying hu, hxx, goInt])), same (.int _ _)⟩
            | sl id q i n kc a cap hid hn hk2 ha =>
              cases kc with
              | none => exact l2.elim
              | some m =>
                obtain rfl := hk2 m rfl
                exact ⟨.int .i64 cap, w, hrun (run_v (by simp [Builtin.cap_, ht, run_underlying hu, hxx, goInt])), same (.int _ _)⟩
            | _ => exact l2.elim
          · cases hl
        · cases hl
      case max =>
        split at hl
        · rename_i x y hxs
          obtain rfl := two hxs
          simp only [Option.bind_eq_some_iff, Option.some.injEq] at hl
          obtain ⟨x', hx, y', hy, rfl⟩ := hl
          obtain ⟨l1, l2, b1, b2⟩ := hc
          obtain ⟨k1, a, h1, h2⟩ := intOf' ((hops x (by simp) x' hx).sv l1) b1
          obtain ⟨k2, b, h3, h4⟩ := intOf' ((hops y (by simp) y' hy).sv l2) b2
          exact ⟨.int k1 (if b > a then b else a), w, hrun (run_v (by simp [Builtin.max_, Builtin.max2, h2, h4])), same (by simp only [pval, h1, h3, maxV]; exact .int _ _)⟩
        · cases hl
      case min =>
        split at hl
        · rename_i x y hxs
          obtain rfl := two hxs
          simp only [Option.bind_eq_some_iff, Option.some.injEq] at hl
          obtain ⟨x', hx, y', hy, rfl⟩ := hl
          obtain ⟨l1, l2, b1, b2⟩ := hc
          obtain ⟨k1, a, h1, h2⟩ := intOf' ((hops x (by simp) x' hx).sv l1) b1
          obtain ⟨k2, b, h3, h4⟩ := intOf' ((hops y (by simp) y' hy).sv l2) b2
          exact ⟨.int k1 (if b < a then b else a), w, hrun (run_v (by simp [Builtin.min_, Builtin.min2, h2, h4])), same (by simp only [pval, h1, h3, minV]; exact .int _ _)⟩
        · cases hl
      case append =>
        exfalso
        split at hl
        · simp only [Option.bind_eq_some_iff, Option.some.injEq] at hl
          obtain ⟨x', _, y', _, hl⟩ := hl
          split at hl
          · simp only [Option.bind_eq_some_iff, Option.some.injEq] at hl
            obtain ⟨i, _, z, _, rfl⟩ := hl
            exact hc
          · cases hl
        · cases hl
  case store =>
    obtain ⟨n, _, a, _, x, _, rfl⟩ := hl
    exact hc.elim
end
end Go.Proofs.Ytffiicopifmmfaa.Ai
