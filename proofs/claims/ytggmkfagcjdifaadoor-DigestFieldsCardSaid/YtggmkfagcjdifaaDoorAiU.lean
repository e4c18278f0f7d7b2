/-
  Functions, evaluated on abstract values. Plain facts, no condition.
-/
import Derived.Test.YtggmkfagcjdifaaDoorAiT
namespace Go.Proofs.YtggmkfagcjdifaaDoor.Ai
set_option linter.unusedSimpArgs false
set_option linter.unusedVariables false
set_option linter.unnecessarySimpa false
set_option linter.unusedSectionVars false
set_option linter.unusedVariables false

/-! ### The conditions, as tests -/
def AV.liveB : AV → Bool
  | .opt t v => t && v.liveB
  | _ => true
theorem AV.liveB_live : ∀ {v : AV}, v.liveB = true → v.live
  | .opt t v, h => by simp only [AV.liveB, Bool.and_eq_true] at h; exact ⟨h.1, AV.liveB_live h.2⟩
  | .any, _ | .bool _, _ | .int _ _, _ | .str _, _ | .nilp, _ | .nils, _ | .nilf, _ | .nili, _ | .agg _, _ | .tup _, _ | .ros _ _, _ | .rop _, _ | .sl _ _ _ _ _, _ | .pt _ _ _ _, _ | .fn _ _ _, _ | .ifc _ _, _ | .nilm, _ | .roe _, _ => trivial
def lvB (e : Env) (x : Opd) : Bool := (ev e x).liveB
theorem lvB_lv {e : Env} {x : Opd} (h : lvB e x = true) : lv e x := AV.liveB_live h
def allLvB (e : Env) : List Opd → Bool
  | [] => true
  | x :: l => lvB e x && allLvB e l
theorem allLvB_all {e : Env} : ∀ {l : List Opd}, allLvB e l = true → allLv e l
  | [], _ => trivial
  | x :: l, h => by simp only [allLvB, Bool.and_eq_true] at h; exact ⟨lvB_lv h.1, allLvB_all h.2⟩
def rdB (rows : Rows) (v : AV) (sz : Nat) : Bool :=
  match v with
  | .rop cs => decide (sz ≤ cs.length)
  | .pt id q i off => match look rows id with
    | some r => r.sz == q && decide (i < r.es.length) && decide (off + sz ≤ q)
    | none => false
  | _ => false
theorem rdB_rd {rows : Rows} {v : AV} {sz : Nat} (h : rdB rows v sz = true) : rdc rows v sz := by
  unfold rdB at h
  split at h
  · simpa [rdc] using h
  · split at h
    · rename_i hl
      simp only [Bool.and_eq_true, beq_iff_eq, decide_eq_true_eq] at h
      simp only [rdc, hl, h.1.1, beq_self_eq_true, cond_true]; exact ⟨h.1.2, h.2⟩
    · cases h
  · cases h
def knownB : AV → Bool
  | .any => false
  | .opt _ _ => false
  | _ => true
theorem knownB_known {v : AV} (h : knownB v = true) : v.known := by cases v <;> first | trivial | cases h
def intB (op : BinOp) (k k' : IntKind) (b : Int) : Bool :=
  match op with
  | .shl | .shr => decide (0 ≤ b)
  | .quo | .rem => decide (k = k') && decide (b ≠ 0)
  | _ => decide (k = k')
theorem intB_int {op : BinOp} {k k' : IntKind} {b : Int} (h : intB op k k' b = true) : intC op k k' b := by
  cases op <;> simpa [intB, intC] using h
def strB (op : BinOp) (a b : ByteArray) : Bool :=
  match op with
  | .add => decide (((a.size + b.size : Nat) : Int) ≤ IntKind.i64.max)
  | .eql | .neq | .lss | .leq | .gtr | .geq => true
  | _ => false
theorem strB_str {op : BinOp} {a b : ByteArray} (h : strB op a b = true) : strC op a b := by
  cases op <;> first | (simp only [strB, decide_eq_true_eq] at h; exact h) | trivial | cases h
def binB (op : BinOp) : AV → AV → Bool
  | .int k a, .int k' b => intB op k k' b
  | .str a, .str b => strB op a b
  | _, _ => false
theorem binB_bin {op : BinOp} {x y : AV} (h : binB op x y = true) : binC op x y := by
  unfold binB at h
  split at h
  · exact intB_int h
  · exact strB_str h
  · cases h
def nilB : AV → Bool
  | .nils | .roe _ => true
  | .ros _ es => !es.isEmpty
  | .sl _ _ _ n k => decide (0 < n) || (match k with | some (_ + 1) => true | _ => false)
  | _ => false
theorem nilB_nil {v : AV} (h : nilB v = true) : nilC v := by
  unfold nilB at h
  split at h <;> first | trivial | cases h | skip
  · simpa [nilC] using h
  · simp only [Bool.or_eq_true, decide_eq_true_eq] at h
    rcases h with h | h
    · exact .inl h
    · split at h
      · exact .inr ⟨_, rfl⟩
      · cases h
def isByteB : AV → Bool
  | .int .u8 _ => true
  | _ => false
theorem isByteB_byte {v : AV} (h : isByteB v = true) : isByte v := by unfold isByteB at h; split at h <;> first | trivial | cases h
def elsB (rows : Rows) (sz : Nat) : AV → Bool
  | .ros q _ => q == sz
  | .nils => true
  | .roe _ => true
  | .sl id q i n _ => match look rows id with
    | some r => r.sz == q && q == sz && decide (i + n ≤ r.es.length)
    | none => false
  | _ => false
theorem elsB_els {rows : Rows} {sz : Nat} {v : AV} (h : elsB rows sz v = true) : elsC rows sz v := by
  unfold elsB at h
  split at h <;> first | trivial | cases h | skip
  · simpa [elsC] using h
  · split at h
    · rename_i hl
      simp only [Bool.and_eq_true, beq_iff_eq, decide_eq_true_eq] at h
      simp only [elsC, hl, h.1.1, beq_self_eq_true, cond_true]; exact ⟨h.1.2, h.2⟩
    · cases h
def boundLB (e : Env) : Option Opd → Bool
  | none => true
  | some x => lvB e x
theorem boundLB_l {e : Env} {o : Option Opd} (h : boundLB e o = true) : boundL e o := by cases o <;> first | trivial | exact lvB_lv h
def sliceB (n : Nat) : AV → AV → Bool
  | .int _ l, .int _ h => decide (0 ≤ l) && decide (l ≤ h) && decide (h ≤ n)
  | _, _ => false
theorem sliceB_slice {n : Nat} {x y : AV} (h : sliceB n x y = true) : sliceC n x y := by
  unfold sliceB at h
  split at h
  · simp only [Bool.and_eq_true, decide_eq_true_eq] at h; exact ⟨h.1.1, h.1.2, h.2⟩
  · cases h
def lenB : AV → Bool
  | .ros _ _ | .sl _ _ _ _ _ | .nils | .roe _ => true
  | _ => false
theorem lenB_len {v : AV} (h : lenB v = true) : lenC v := by cases v <;> first | trivial | cases h
def partsB (e : Env) (n : Nat) : List (Nat × Nat × Opd) → Bool
  | [] => true
  | (off, sz, x) :: l => lvB e x && knownB (sv e x) && (sv e x).cells.length == sz && decide (off + sz ≤ n) && partsB e n l
theorem partsB_parts {e : Env} {n : Nat} : ∀ {l : List (Nat × Nat × Opd)}, partsB e n l = true → partsC e n l
  | [], _ => trivial
  | (off, sz, x) :: l, h => by
    simp only [partsB, Bool.and_eq_true, beq_iff_eq, decide_eq_true_eq] at h
    exact ⟨⟨lvB_lv h.1.1.1.1, knownB_known h.1.1.1.2, h.1.1.2, h.1.2⟩, partsB_parts h.2⟩
def elemsB (e : Env) (sz n : Nat) : List (Nat × Opd) → Bool
  | [] => true
  | (i, x) :: l => lvB e x && knownB (sv e x) && (sv e x).cells.length == sz && decide (i < n) && elemsB e sz n l
theorem elemsB_elems {e : Env} {sz n : Nat} : ∀ {l : List (Nat × Opd)}, elemsB e sz n l = true → elemsC e sz n l
  | [], _ => trivial
  | (i, x) :: l, h => by
    simp only [elemsB, Bool.and_eq_true, beq_iff_eq, decide_eq_true_eq] at h
    exact ⟨⟨lvB_lv h.1.1.1.1, knownB_known h.1.1.1.2, h.1.1.2, h.1.2⟩, elemsB_elems h.2⟩
def ncB : AV → Bool
  | .rop _ | .pt _ _ _ _ | .fn (.func _) _ _ => true
  | _ => false
theorem ncB_nc {v : AV} (h : ncB v = true) : ncC v := by unfold ncB at h; split at h <;> first | trivial | cases h
def pickB (e : Env) (a b : Opd) : AV → Bool
  | .bool t => bif t then lvB e a else lvB e b
  | _ => false
theorem pickB_pick {e : Env} {a b : Opd} {v : AV} (h : pickB e a b v = true) : pickC e a b v := by
  unfold pickB at h
  split at h
  · rename_i t
    cases t with
    | true => exact ⟨fun _ => lvB_lv h, nofun⟩
    | false => exact ⟨nofun, fun _ => lvB_lv h⟩
  · cases h
def faB (off : Nat) : AV → Bool
  | .rop cs => decide (off ≤ cs.length)
  | .pt _ _ _ _ => true
  | _ => false
theorem faB_fa {off : Nat} {v : AV} (h : faB off v = true) : faC off v := by unfold faB at h; split at h <;> first | (simpa [faC] using h) | trivial | cases h
def fdB (off sz : Nat) : AV → Bool
  | .agg cs => decide (off + sz ≤ cs.length)
  | _ => false
theorem fdB_fd {off sz : Nat} {v : AV} (h : fdB off sz v = true) : fdC off sz v := by unfold fdB at h; split at h <;> first | (simpa [fdC] using h) | cases h
def iasB (sz : Nat) : AV → AV → Bool
  | .ros q es, .int _ n => q == sz && decide (0 ≤ n) && decide (n < es.length)
  | .sl _ q _ m _, .int _ n => q == sz && decide (0 ≤ n) && decide (n < m)
  | _, _ => false
theorem iasB_ias {sz : Nat} {x y : AV} (h : iasB sz x y = true) : iasC sz x y := by
  unfold iasB at h
  split at h <;> first | (simp only [Bool.and_eq_true, beq_iff_eq, decide_eq_true_eq] at h; exact ⟨h.1.1, h.1.2, h.2⟩) | cases h
def iaaB (len sz : Nat) : AV → AV → Bool
  | .rop cs, .int _ n => decide (0 ≤ n) && decide (n < len) && decide (n.toNat * sz ≤ cs.length)
  | .pt _ _ _ _, .int _ n => decide (0 ≤ n) && decide (n < len)
  | _, _ => false
theorem iaaB_iaa {len sz : Nat} {x y : AV} (h : iaaB len sz x y = true) : iaaC len sz x y := by
  unfold iaaB at h
  split at h <;> first | (simp only [Bool.and_eq_true, decide_eq_true_eq] at h; exact ⟨h.1.1, h.1.2, h.2⟩) | (simp only [Bool.and_eq_true, decide_eq_true_eq] at h; exact ⟨h.1, h.2⟩) | cases h
def ixaB (len sz : Nat) : AV → AV → Bool
  | .agg cs, .int _ n => decide (0 ≤ n) && decide (n < len) && decide (n.toNat * sz + sz ≤ cs.length)
  | _, _ => false
theorem ixaB_ixa {len sz : Nat} {x y : AV} (h : ixaB len sz x y = true) : ixaC len sz x y := by
  unfold ixaB at h
  split at h <;> first | (simp only [Bool.and_eq_true, decide_eq_true_eq] at h; exact ⟨h.1.1, h.1.2, h.2⟩) | cases h
def ixsB : AV → AV → Bool
  | .str s, .int _ n => decide (0 ≤ n) && decide (n < s.size)
  | _, _ => false
theorem ixsB_ixs {x y : AV} (h : ixsB x y = true) : ixsC x y := by
  unfold ixsB at h
  split at h <;> first | (simp only [Bool.and_eq_true, decide_eq_true_eq] at h; exact ⟨h.1, h.2⟩) | cases h
def extB (i : Nat) : AV → Bool
  | .tup vs => decide (i < vs.length)
  | _ => false
theorem extB_ext {i : Nat} {v : AV} (h : extB i v = true) : extC i v := by unfold extB at h; split at h <;> first | (simpa [extC] using h) | cases h
def boolB : AV → Bool
  | .bool _ => true
  | _ => false
theorem boolB_bool {v : AV} (h : boolB v = true) : boolC v := by cases v <;> first | trivial | cases h
def intIsB : AV → Bool
  | .int _ _ => true
  | _ => false
theorem intIsB_int {v : AV} (h : intIsB v = true) : intIs v := by cases v <;> first | trivial | cases h
def strIsB : AV → Bool
  | .str _ => true
  | _ => false
theorem strIsB_str {v : AV} (h : strIsB v = true) : strIs v := by cases v <;> first | trivial | cases h
def nilsIsB : AV → Bool
  | .nils => true
  | _ => false
theorem nilsIsB_nils {v : AV} (h : nilsIsB v = true) : nilsIs v := by cases v <;> first | trivial | cases h
def ifcIsB : AV → Bool
  | .ifc _ _ | .nili => true
  | _ => false
theorem ifcIsB_ifc {v : AV} (h : ifcIsB v = true) : ifcIs v := by cases v <;> first | trivial | cases h
def isIfcB : AV → Bool
  | .ifc _ _ => true
  | _ => false
theorem isIfcB_ifc {v : AV} (h : isIfcB v = true) : isIfc v := by cases v <;> first | trivial | cases h
def tasB (t : TypeId) : AV → Bool
  | .ifc t' _ => t' == t
  | _ => false
theorem tasB_tas {t : TypeId} {v : AV} (h : tasB t v = true) : tasC t v := by unfold tasB at h; split at h <;> first | (simpa [tasC] using h) | cases h
def capB : AV → Bool
  | .nils => true
  | .sl _ _ _ _ (some _) => true
  | _ => false
theorem capB_cap {v : AV} (h : capB v = true) : capC v := by unfold capB at h; split at h <;> first | trivial | cases h
def slcSzB (sz : Nat) : AV → Bool
  | .ros q _ | .sl _ q _ _ _ => q == sz
  | _ => true
theorem slcSzB_sz {sz : Nat} {v : AV} (h : slcSzB sz v = true) : slcSz sz v := by cases v <;> first | trivial | (simpa [slcSz, slcSzB] using h)
def slsB (e : Env) (lo hi : Option Opd) : AV → Bool
  | .str s => sliceB s.size (bound e 0 lo) (bound e s.size hi)
  | _ => false
theorem slsB_sls {e : Env} {lo hi : Option Opd} {v : AV} (h : slsB e lo hi v = true) : slsC e lo hi v := by cases v <;> first | exact sliceB_slice h | cases h
def mksB (bytes : Nat) : AV → AV → Bool
  | .int _ a, .int _ b => decide (0 ≤ a) && decide (a ≤ b) && decide (b * bytes ≤ 2 ^ 47) && decide (b < 2 ^ 63)
  | _, _ => false
theorem mksB_mks {bytes : Nat} {x y : AV} (h : mksB bytes x y = true) : mksC bytes x y := by
  unfold mksB at h
  split at h <;> first | (simp only [Bool.and_eq_true, decide_eq_true_eq] at h; exact ⟨h.1.1.1, h.1.1.2, h.1.2, h.2⟩) | cases h
def skB : SK → AV → Bool
  | .b, .bool _ => true
  | .i k, .int k' _ => decide (k = k')
  | .s, .str _ => true
  | _, _ => false
theorem skB_sk {k : SK} {v : AV} (h : skB k v = true) : skC k v := by unfold skB at h; split at h <;> first | trivial | (simpa [skC] using h) | cases h
def eqvB : List (Nat × SK) → List AV → List AV → Bool
  | [], _, _ => true
  | (o, k) :: l, cs, ds => decide (o < cs.length) && decide (o < ds.length) && skB k (cs.getD o .any) && skB k (ds.getD o .any) && eqvB l cs ds
theorem eqvB_eqv : ∀ {l : List (Nat × SK)} {cs ds : List AV}, eqvB l cs ds = true → eqvC l cs ds
  | [], _, _, _ => trivial
  | (o, k) :: l, cs, ds, h => by
    simp only [eqvB, Bool.and_eq_true, decide_eq_true_eq] at h
    exact ⟨⟨h.1.1.1.1, h.1.1.1.2, skB_sk h.1.1.2, skB_sk h.1.2⟩, eqvB_eqv h.2⟩
def eqaB (l : List (Nat × SK)) : AV → AV → Bool
  | .agg cs, .agg ds => eqvB l cs ds
  | _, _ => false
theorem eqaB_eqa {l : List (Nat × SK)} {x y : AV} (h : eqaB l x y = true) : eqaC l x y := by unfold eqaB at h; split at h <;> first | exact eqvB_eqv h | cases h

def pcB (e : Env) (rows : Rows) : ROp → Bool
  | .mv _ => true
  | .pick c a b => lvB e c && pickB e a b (sv e c)
  | .nc x => lvB e x && ncB (sv e x)
  | .alloc _ => true
  | .box x => lvB e x && knownB (sv e x)
  | .build z ps => partsB e z.length ps
  | .bslice sz n z ps => z.length == sz && decide (n * sz ≤ 2 ^ 24) && elemsB e sz n ps
  | .ld _ sz x => lvB e x && rdB rows (sv e x) sz
  | .fa off x => lvB e x && faB off (sv e x)
  | .fd off _ sz x => lvB e x && fdB off sz (sv e x)
  | .ias sz x i => lvB e x && lvB e i && iasB sz (sv e x) (sv e i)
  | .iaa len sz x i => lvB e x && lvB e i && iaaB len sz (sv e x) (sv e i)
  | .ixa len sz _ x i => lvB e x && lvB e i && ixaB len sz (sv e x) (sv e i)
  | .ixs x i => lvB e x && lvB e i && ixsB (sv e x) (sv e i)
  | .ext x i => lvB e x && extB i (sv e x)
  | .bin op x y => lvB e x && lvB e y && binB op (sv e x) (sv e y)
  | .eqb _ x y => lvB e x && lvB e y && boolB (sv e x) && boolB (sv e y)
  | .eqv _ l x y => lvB e x && lvB e y && eqaB l (sv e x) (sv e y)
  | .eqn _ x y => lvB e x && lvB e y && nilB (sv e x) && nilsIsB (sv e y)
  | .not x => lvB e x && boolB (sv e x)
  | .neg x => lvB e x && intIsB (sv e x)
  | .cv _ x => lvB e x && intIsB (sv e x)
  | .b2s x => lvB e x && elsB rows 1 (sv e x) && (elsV rows (sv e x)).all fun c => match c with | [v] => isByteB v | _ => false
  | .s2b x => lvB e x && strIsB (sv e x)
  | .mkf _ xs ys => allLvB e xs && allLvB e ys
  | .mki _ x => lvB e x
  | .len x => lvB e x && lenB (sv e x)
  | .lens x => lvB e x && strIsB (sv e x)
  | .cap x => lvB e x && capB (sv e x)
  | .max2 x y | .min2 x y => lvB e x && lvB e y && intIsB (sv e x) && intIsB (sv e y)
  | .slc sz x lo hi => lvB e x && boundLB e lo && boundLB e hi && lenB (sv e x) && slcSzB sz (sv e x) && sliceB (lenV (sv e x)).toNat (bound e 0 lo) (bound e (lenV (sv e x)).toNat hi)
  | .sls x lo hi => lvB e x && boundLB e lo && boundLB e hi && slsB e lo hi (sv e x)
  | .mks sz bytes z n c => lvB e n && lvB e c && z.length == sz && mksB bytes (sv e n) (sv e c)
  | .st _ _ _ | .app _ _ _ _ _ | .cal _ _ | .cav _ _ | .pan _ | .cpy _ _ | .sla _ _ _ _ => false
  | .bnot x => lvB e x && intIsB (sv e x)
  | .tas t x => lvB e x && tasB t (sv e x)
  | .eqi _ x => lvB e x && ifcIsB (sv e x)

theorem pcB_pc {e : Env} {rows : Rows} {op : ROp} (h : pcB e rows op = true) : pcond e rows op := by
  cases op <;> simp only [pcB, Bool.and_eq_true, beq_iff_eq, decide_eq_true_eq, Bool.false_eq_true] at h <;> simp only [pcond]
  case pick => exact ⟨lvB_lv h.1, pickB_pick h.2⟩
  case nc => exact ⟨lvB_lv h.1, ncB_nc h.2⟩
  case box => exact ⟨lvB_lv h.1, knownB_known h.2⟩
  case build => exact partsB_parts h
  case bslice => exact ⟨h.1.1, h.1.2, elemsB_elems h.2⟩
  case ld => exact ⟨lvB_lv h.1, rdB_rd h.2⟩
  case fa => exact ⟨lvB_lv h.1, faB_fa h.2⟩
  case fd => exact ⟨lvB_lv h.1, fdB_fd h.2⟩
  case ias => exact ⟨lvB_lv h.1.1, lvB_lv h.1.2, iasB_ias h.2⟩
  case iaa => exact ⟨lvB_lv h.1.1, lvB_lv h.1.2, iaaB_iaa h.2⟩
  case ixa => exact ⟨lvB_lv h.1.1, lvB_lv h.1.2, ixaB_ixa h.2⟩
  case ixs => exact ⟨lvB_lv h.1.1, lvB_lv h.1.2, ixsB_ixs h.2⟩
  case ext => exact ⟨lvB_lv h.1, extB_ext h.2⟩
  case bin => exact ⟨lvB_lv h.1.1, lvB_lv h.1.2, binB_bin h.2⟩
  case eqb => exact ⟨lvB_lv h.1.1.1, lvB_lv h.1.1.2, boolB_bool h.1.2, boolB_bool h.2⟩
  case eqv => exact ⟨lvB_lv h.1.1, lvB_lv h.1.2, eqaB_eqa h.2⟩
  case eqn => exact ⟨lvB_lv h.1.1.1, lvB_lv h.1.1.2, nilB_nil h.1.2, nilsIsB_nils h.2⟩
  case not => exact ⟨lvB_lv h.1, boolB_bool h.2⟩
  case neg => exact ⟨lvB_lv h.1, intIsB_int h.2⟩
  case cv => exact ⟨lvB_lv h.1, intIsB_int h.2⟩
  case b2s =>
    refine ⟨lvB_lv h.1.1, elsB_els h.1.2, fun c hc => ?_⟩
    have := List.all_eq_true.1 h.2 c hc
    split at this
    · exact ⟨_, rfl, isByteB_byte this⟩
    · cases this
  case s2b => exact ⟨lvB_lv h.1, strIsB_str h.2⟩
  case mkf => exact ⟨allLvB_all h.1, allLvB_all h.2⟩
  case mki => exact lvB_lv h
  case len => exact ⟨lvB_lv h.1, lenB_len h.2⟩
  case lens => exact ⟨lvB_lv h.1, strIsB_str h.2⟩
  case cap => exact ⟨lvB_lv h.1, capB_cap h.2⟩
  case max2 => exact ⟨lvB_lv h.1.1.1, lvB_lv h.1.1.2, intIsB_int h.1.2, intIsB_int h.2⟩
  case min2 => exact ⟨lvB_lv h.1.1.1, lvB_lv h.1.1.2, intIsB_int h.1.2, intIsB_int h.2⟩
  case slc => exact ⟨lvB_lv h.1.1.1.1.1, boundLB_l h.1.1.1.1.2, boundLB_l h.1.1.1.2, lenB_len h.1.1.2, slcSzB_sz h.1.2, sliceB_slice h.2⟩
  case sls => exact ⟨lvB_lv h.1.1.1, boundLB_l h.1.1.2, boundLB_l h.1.2, slsB_sls h.2⟩
  case mks => exact ⟨lvB_lv h.1.1.1, lvB_lv h.1.1.2, h.1.2, mksB_mks h.2⟩
  case tas => exact ⟨lvB_lv h.1, tasB_tas h.2⟩
  case eqi => exact ⟨lvB_lv h.1, ifcIsB_ifc h.2⟩
  case bnot => exact ⟨lvB_lv h.1, intIsB_int h.2⟩

def oneB : AV → Bool
  | .any | .agg _ | .tup _ | .opt _ _ => false
  | _ => true
theorem oneB_one {v : AV} (h : oneB v = true) : v.one := by cases v <;> first | trivial | cases h
def stB (rows : Rows) (sz : Nat) (a x : AV) : Bool :=
  (match a with
  | .pt id q i off => match look rows id with
    | some r => r.sz == q && decide (i < r.es.length) && decide (off + sz ≤ q)
    | none => false
  | _ => false) && knownB x && x.cells.length == sz && x.cells.all oneB
theorem stB_st {rows : Rows} {sz : Nat} {a x : AV} (h : stB rows sz a x = true) : stC rows sz a x := by
  simp only [stB, Bool.and_eq_true, beq_iff_eq] at h
  obtain ⟨⟨⟨h1, h2⟩, h3⟩, h4⟩ := h
  refine ⟨?_, knownB_known h2, h3, fun c hc => oneB_one (List.all_eq_true.1 h4 c hc)⟩
  split at h1
  · split at h1
    · rename_i hl
      simp only [Bool.and_eq_true, beq_iff_eq, decide_eq_true_eq] at h1
      simp only [hl]; exact ⟨h1.1.1, h1.1.2, h1.2⟩
    · cases h1
  · cases h1
def appB (rows : Rows) (sz bytes : Nat) (z : List AV) (x y : AV) : Bool :=
  elsB rows sz y && (elsV rows y).all (fun c => c.all oneB) && z.length == sz &&
  (match x with
  | .nils => true
  | .sl id q i n c => match look rows id with
    | some r => r.sz == q && q == sz && decide (i + n ≤ r.es.length) && (c.isSome || i + n == r.es.length)
    | none => false
  | _ => false) && decide (((lenV x).toNat + (elsV rows y).length) * bytes ≤ 140737488355328) && decide ((lenV x).toNat + (elsV rows y).length ≤ 9223372036854775807)
theorem appB_app {rows : Rows} {sz bytes : Nat} {z : List AV} {x y : AV} (h : appB rows sz bytes z x y = true) : appC rows sz bytes z x y := by
  simp only [appB, Bool.and_eq_true, beq_iff_eq, decide_eq_true_eq] at h
  obtain ⟨⟨⟨⟨⟨h1, h2⟩, h3⟩, h4⟩, h5⟩, h6⟩ := h
  refine ⟨elsB_els h1, fun c hc v hv => oneB_one (List.all_eq_true.1 (List.all_eq_true.1 h2 c hc) v hv), h3, ?_, h5, h6⟩
  split at h4
  · trivial
  · split at h4
    · rename_i hl
      simp only [Bool.and_eq_true, beq_iff_eq, decide_eq_true_eq, Bool.or_eq_true] at h4
      simp only [hl]
      exact ⟨h4.1.1.1, h4.1.1.2, h4.1.2, fun hc => by subst hc; exact h4.2.resolve_left (by simp)⟩
    · cases h4
  · cases h4

def clN : Nat → AV → Bool
  | 0, _ => false
  | n + 1, v => match v with
    | .agg cs => cs.all (clN n)
    | .tup cs => cs.all (clN n)
    | .ros _ es => es.all fun x => x.all (clN n)
    | .rop cs => cs.all (clN n)
    | .sl _ _ _ _ _ => false
    | .pt _ _ _ _ => false
    | .fn _ xs ys => xs.all (clN n) && ys.all (clN n)
    | .ifc _ v => clN n v
    | .opt _ v => clN n v
    | _ => true
def clB (v : AV) : Bool := clN 40 v
def clL (l : List AV) : Bool := l.all (clN 40)
theorem clN_cl : ∀ {n : Nat} {v : AV}, clN n v = true → Cl v
  | 0, v, h => by cases h
  | n + 1, v, h => by
    have l1 : ∀ {l : List AV}, l.all (clN n) = true → ∀ c ∈ l, Cl c := fun h c hc => clN_cl (List.all_eq_true.1 h c hc)
    cases v <;> simp only [clN, Bool.false_eq_true, Bool.and_eq_true] at h
    case any => exact .any
    case bool => exact .bool _
    case int => exact .int _ _
    case str => exact .str _
    case nilp => exact .nilp
    case nils => exact .nils
    case nilf => exact .nilf
    case nili => exact .nili
    case nilm => exact .nilm
    case roe => exact .roe _
    case agg cs => exact .agg cs (l1 h)
    case tup cs => exact .tup cs (l1 h)
    case ros sz es => exact .ros sz es fun x hx => l1 (List.all_eq_true.1 h x hx)
    case rop cs => exact .rop cs (l1 h)
    case fn f xs ys => exact .fn f xs ys (l1 h.1) (l1 h.2)
    case ifc t v => exact .ifc t v (clN_cl h)
    case opt t v => exact .opt t v (clN_cl h)
theorem clB_cl {v : AV} (h : clB v = true) : Cl v := clN_cl h
theorem clL_cl {l : List AV} (h : clL l = true) : ∀ c ∈ l, Cl c := fun c hc => clN_cl (List.all_eq_true.1 h c hc)
end Go.Proofs.YtggmkfagcjdifaaDoor.Ai
