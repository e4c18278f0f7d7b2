/-
  WRITE: the contract of digest.Write.
-/
import Derived.Test.YtpoppfmlphkakaaDoorHash
import Derived.Deep.RegionHeld3
namespace Go.Proofs.YtpoppfmlphkakaaDoor
set_option linter.unusedVariables false
set_option linter.unusedSimpArgs false
set_option maxRecDepth 100000
open Go.RowKit

theorem hashV_size (s : St) (t : Value) (n : Nat) : (hashV s t n).size = 10 := rfl
theorem hashV_one (s : St) (A : Option Addr) (m c n : Nat) : (hashV s (.slice A m c) n).all (·.oneCell') = true := by simp [hashV, u32v, Value.oneCell']
def st0 : St := ⟨0, 0, 0, 0, 0, 0, 0, 0⟩
@[irreducible] def zerosH : Array Value := hashV st0 (.slice none 0 0) 0
theorem zerosH_eq : zerosH = hashV st0 (.slice none 0 0) 0 := by unfold zerosH; rfl
theorem zerosH_size : zerosH.size = 10 := by rw [zerosH_eq, hashV_size]
theorem allocH : ∀ w : World, (Instr.alloc 42 true (.tuple #[])).run Tryd.prog w = .ok (.pointer (some ⟨w.heap.size, 0, none⟩)) (w.alloc (.cells zerosH 42)) := fun _ => by unfold zerosH; kernel_rfl
theorem sizeH : (Tryd.prog.info? 42).map (·.size) = some 10 := by kernel_rfl
theorem buildH : Tryd.prog.built 42 [] = some zerosH := by unfold zerosH; kernel_rfl

def zlit : Array Value := #[.int .u32 0, .int .u32 0, .int .u32 0, .int .u32 0, .int .u32 0, .int .u32 0, .int .u32 0, .int .u32 0, .slice none 0 0, .int .u64 0]
theorem zlit_eq : zlit = hashV st0 (.slice none 0 0) 0 := rfl
theorem zlit_size : zlit.size = 10 := rfl
theorem zlit_one : zlit.all (·.oneCell') = true := by simp [zlit, Value.oneCell']
theorem zlit_info : (Tryd.prog.info? 42).map (·.size) = some zlit.size := by rw [sizeH, zlit_size]
theorem zlit_old : zerosH.size = zlit.size := by rw [zerosH_size, zlit_size]

/-- What Write comes to: the state, the tail, the length, the error's number. -/
structure WR where
  s : St
  t : List UInt8
  n : Nat
  e : Int
def writeS (s : St) (t : List UInt8) (n : Nat) (b : List UInt8) : WR :=
  if checkE t.length n ≠ 0 then ⟨st0, [], 0, 8⟩
  else if (8192 : Int) - n < b.length then ⟨st0, [], 0, 4⟩
  else ⟨absorbed s (t ++ b) ((t ++ b).length / 64), (t ++ b).drop (64 * ((t ++ b).length / 64)), n + b.length, 0⟩

set_option maxHeartbeats 800000 in
theorem write_err (s : St) (A A2 : Option Addr) (m c n m2 c2 : Nat) (w : World) (hm : m ≤ 140737488351232) (hn : n < 18446744073709551616) (hx : (checkE m n != 0) = true) :
    Calls Tryd.prog 23 #[.agg (hashV s (.slice A m c) n), .slice A2 m2 c2] w fun e w' => e = .returned (.tuple #[.agg (hashV st0 (.slice none 0 0) 0), .int .i64 (checkE m n)]) ∧ Below w.heap.size w w' := by
  have hz := allocH
  have hck := fun W => check_any s A m c n W hm hn
  have b0 : Blk ((w.alloc (.cells (hashV s (.slice A m c) n) 42)).alloc (.cells zerosH 42)) w.heap.size 42 (hashV s (.slice A m c) n) := (Blk.new w _ _).alloc _
  have b1 : Blk ((w.alloc (.cells (hashV s (.slice A m c) n) 42)).alloc (.cells zerosH 42)) (w.heap.size + 1) 42 zerosH := by
    have := Blk.new (w.alloc (.cells (hashV s (.slice A m c) n) 42)) 42 zerosH
    simpa using this
  have hbel : Below w.heap.size w ((w.alloc (.cells (hashV s (.slice A m c) n) 42)).alloc (.cells zerosH 42)) := ((Below.refl _ _).alloc (Nat.le_refl _) _).alloc (by simp) _
  have hs : (Tryd.prog.info? 42).map (·.size) = some (hashV s (.slice A m c) n).size := by rw [sizeH, hashV_size]
  generalize checkE m n = ce at hck hx ⊢
  generalize hashV s (.slice A m c) n = hv at *
  have CK := Lib.hid hck; have B0 := Lib.hid b0; have B1 := Lib.hid b1; have BB := Lib.hid hbel; have HS := Lib.hid hs
  clear hck b0 b1 hbel hs
  go_enter Tryd.func23, Tryd.ntmps23
  go_wp2_with (first | (with_reducible refine wpList_alloc_named rfl 42 rfl zerosH hz ?_) | (refine wpList_load_row rfl 42 (.tmp 2) rfl w.heap.size rfl 42 hv (0, 0) _ B0.out Tryd.underlying42 rfl HS.out ?_))
  refine (CK.out _).mono ?_
  rintro e w3 ⟨rfl, hb3⟩
  have B3 := Lib.hid (B1.out.below hb3 B1.out.lt)
  have hsz := BB.out.size
  have hb4 : Below w.heap.size w w3 := BB.out.trans (hb3.mono hsz)
  go_wp2_with (refine wpList_store_row rfl 42 (.tmp 4) (.tmp 13) rfl (w.heap.size + 1) zlit rfl rfl 42 zerosH B3.out zlit_info zlit_old zlit_one ?_)
  rw [← zlit_eq]
  exact bodyPost_ret (results_row_tmp rfl _ _ (w.heap.size + 1) 42 zlit (0, 0) _ rfl (B3.out.row _) Tryd.underlying42 rfl zlit_info) rfl ⟨rfl, below_setRow hb4 (by omega) _⟩

set_option maxHeartbeats 800000 in
theorem write_many (s : St) (A A2 : Option Addr) (m c n m2 c2 : Nat) (w : World) (hm : m ≤ 140737488351232) (hn : n < 18446744073709551616) (h0 : checkE m n = 0) (hx : (8192 : Int) - n < m2) (hn2 : n ≤ 8192) (hm2 : m2 ≤ 140737488351232) :
    Calls Tryd.prog 23 #[.agg (hashV s (.slice A m c) n), .slice A2 m2 c2] w fun e w' => e = .returned (.tuple #[.agg (hashV st0 (.slice none 0 0) 0), .int .i64 4]) ∧ Below w.heap.size w w' := by
  have hz := allocH
  have hck := fun W => check_any s A m c n W hm hn
  have b0 : Blk ((w.alloc (.cells (hashV s (.slice A m c) n) 42)).alloc (.cells zerosH 42)) w.heap.size 42 (hashV s (.slice A m c) n) := (Blk.new w _ _).alloc _
  have b1 : Blk ((w.alloc (.cells (hashV s (.slice A m c) n) 42)).alloc (.cells zerosH 42)) (w.heap.size + 1) 42 zerosH := by
    have := Blk.new (w.alloc (.cells (hashV s (.slice A m c) n) 42)) 42 zerosH
    simpa using this
  have hbel : Below w.heap.size w ((w.alloc (.cells (hashV s (.slice A m c) n) 42)).alloc (.cells zerosH 42)) := ((Below.refl _ _).alloc (Nat.le_refl _) _).alloc (by simp) _
  have hs : (Tryd.prog.info? 42).map (·.size) = some (hashV s (.slice A m c) n).size := by rw [sizeH, hashV_size]
  rw [h0] at hck
  have hcell : (hashV s (.slice A m c) n)[9]? = some (.int .u64 (n : Int)) := rfl
  generalize hashV s (.slice A m c) n = hv at *
  have CK := Lib.hid hck; have B0 := Lib.hid b0; have B1 := Lib.hid b1; have BB := Lib.hid hbel; have HS := Lib.hid hs; have HC := Lib.hid hcell
  clear hck b0 b1 hbel hs h0 hcell
  go_enter Tryd.func23, Tryd.ntmps23
  go_wp2_with (first | (with_reducible refine wpList_alloc_named rfl 42 rfl zerosH hz ?_) | (refine wpList_load_row rfl 42 (.tmp 2) rfl w.heap.size rfl 42 hv (0, 0) _ B0.out Tryd.underlying42 rfl HS.out ?_))
  refine (CK.out _).mono ?_
  rintro e w3 ⟨rfl, hb3⟩
  have B3 := Lib.hid (B1.out.below hb3 B1.out.lt)
  have B4 := (B0.out.below hb3 B0.out.lt).cellv 9 HC.out
  have hsz := BB.out.size
  have hb4 : Below w.heap.size w w3 := BB.out.trans (hb3.mono hsz)
  go_wp2_with (refine wpList_store_row rfl 42 (.tmp 4) (.tmp 22) rfl (w.heap.size + 1) zlit rfl rfl 42 zerosH B3.out zlit_info zlit_old zlit_one ?_)
  rw [← zlit_eq]
  exact bodyPost_ret (results_row_tmp rfl _ _ (w.heap.size + 1) 42 zlit (0, 0) _ rfl (B3.out.row _) Tryd.underlying42 rfl zlit_info) rfl ⟨rfl, below_setRow hb4 (by omega) _⟩

/-- What lies from block lo on, below block hi. -/
def In (lo hi : Nat) (A : Option Addr) : Prop := ∀ a, A = some a → lo ≤ a.block ∧ a.block < hi
theorem In.from_ {lo hi : Nat} {A A' : Option Addr} (h : In lo hi A) (hf : From A A') : In lo hi A' := by
  obtain ⟨k, rfl⟩ := hf
  rintro a ha
  cases A with
  | none => cases ha
  | some x =>
    injection ha with ha
    subst ha
    rw [block_of_add]
    exact h x rfl
theorem In.of_own {w : World} {base : Nat} {e : TypeId} {size : Nat} {A : Option Addr} {c n m : Nat} {xs : List Value} (h : w.ownsRow base e size (.slice A m c) n xs) : In base w.heap.size A := by
  rintro a rfl
  rcases h.2 with ⟨hv, _⟩ | ⟨g, cap, cur, hv, hg, hh, _⟩
  · cases hv
  · injection hv with hv
    injection hv with hv
    subst hv
    exact ⟨hg, (Array.getElem?_eq_some_iff.1 hh).1⟩
theorem In.less {lo hi lo' hi' : Nat} {A : Option Addr} (h : In lo hi A) (h1 : lo' ≤ lo) (h2 : hi ≤ hi') : In lo' hi' A := fun a ha => ⟨Nat.le_trans h1 (h a ha).1, Nat.lt_of_lt_of_le (h a ha).2 h2⟩
theorem Reads.row {w : World} {B size n : Nat} {A : Option Addr} {xs : List Value} (h : Reads w B size A n xs) {lo hi g : Nat} (hi_ : In lo hi A) (hg : g < lo ∨ hi ≤ g) (cs : Array Value) : Reads (w.setRow g cs) B size A n xs :=
  ⟨h.1, fun hn => by
    obtain ⟨ad, e, hb, hc⟩ := h.2 hn
    have := hi_ ad e
    exact ⟨ad, e, hb, fun j u hu => (World.cell?_of_block (w := w) (setRow_other w g _ cs (by rw [block_of_add]; omega))).trans (hc j u hu)⟩⟩

theorem cell_drew (w : World) (p : Addr) : w.drew.cell? p = w.cell? p := rfl
theorem two_cell0 (w : World) (t : TypeId) (x y : Value) : (w.alloc (.cells #[x, y] t)).cell? ⟨w.heap.size, 0, none⟩ = some x := by
  rw [cell_of_row (w.alloc (.cells #[x, y] t)) w.heap.size 0 #[x, y] t (0, 0) (heap_alloc_new w _)]
  rfl
theorem two_cell1 (w : World) (t : TypeId) (x y : Value) : (w.alloc (.cells #[x, y] t)).cell? ⟨w.heap.size, 1, none⟩ = some y := by
  rw [cell_of_row (w.alloc (.cells #[x, y] t)) w.heap.size 1 #[x, y] t (0, 0) (heap_alloc_new w _)]
  rfl

theorem two_cell0b (w : World) (t : TypeId) (x y : Value) (o : Obj) : ((w.alloc (.cells #[x, y] t)).alloc o).cell? ⟨w.heap.size, 0, none⟩ = some x :=
  (World.cell?_alloc_lt _ _ _ (by simp)).trans (two_cell0 w t x y)
theorem two_cell1b (w : World) (t : TypeId) (x y : Value) (o : Obj) : ((w.alloc (.cells #[x, y] t)).alloc o).cell? ⟨w.heap.size, 1, none⟩ = some y :=
  (World.cell?_alloc_lt _ _ _ (by simp)).trans (two_cell1 w t x y)
theorem two_cell0c (w : World) (t : TypeId) (x y : Value) {g : Nat} (hg : g = w.heap.size) : (w.alloc (.cells #[x, y] t)).cell? ⟨g, 0, none⟩ = some x := by
  subst hg
  exact two_cell0 w t x y
theorem two_cell1c (w : World) (t : TypeId) (x y : Value) {g : Nat} (hg : g = w.heap.size) : (w.alloc (.cells #[x, y] t)).cell? ⟨g, 1, none⟩ = some y := by
  subst hg
  exact two_cell1 w t x y
/-- Eight zero words in block g. -/
def Z8 (w : World) (g : Nat) : Prop := Blk w g 40 #[.int .u32 0, .int .u32 0, .int .u32 0, .int .u32 0, .int .u32 0, .int .u32 0, .int .u32 0, .int .u32 0]
theorem z8_new (W : World) {g : Nat} (hg : g = W.heap.size) : Z8 (W.alloc (.cells #[.int .u32 0, .int .u32 0, .int .u32 0, .int .u32 0, .int .u32 0, .int .u32 0, .int .u32 0, .int .u32 0] 40)) g := by
  subst hg
  exact Blk.new W _ _
theorem Z8.drew {w : World} {g : Nat} (h : Z8 w g) : Z8 w.drew g := h
theorem Z8.below {w w' : World} {g : Nat} (h : Z8 w g) (hb : Below w.heap.size w w') : Z8 w' g := Blk.below h hb (Blk.lt h)
theorem Z8.alloc {w : World} {g : Nat} (h : Z8 w g) (o : Obj) : Z8 (w.alloc o) g := Blk.alloc h o
theorem Z8.facts {w : World} {g : Nat} (h : Z8 w g) : w.cell? ⟨g, 0, none⟩ = some (.int .u32 0) ∧ w.cell? ⟨g, 1, none⟩ = some (.int .u32 0) ∧ w.cell? ⟨g, 2, none⟩ = some (.int .u32 0) ∧ w.cell? ⟨g, 3, none⟩ = some (.int .u32 0) ∧ w.cell? ⟨g, 4, none⟩ = some (.int .u32 0) ∧ w.cell? ⟨g, 5, none⟩ = some (.int .u32 0) ∧ w.cell? ⟨g, 6, none⟩ = some (.int .u32 0) ∧ w.cell? ⟨g, 7, none⟩ = some (.int .u32 0) ∧ w.frozen? ⟨g, 0, none⟩ = false ∧ w.frozen? ⟨g, 1, none⟩ = false ∧ w.frozen? ⟨g, 2, none⟩ = false ∧ w.frozen? ⟨g, 3, none⟩ = false ∧ w.frozen? ⟨g, 4, none⟩ = false ∧ w.frozen? ⟨g, 5, none⟩ = false ∧ w.frozen? ⟨g, 6, none⟩ = false ∧ w.frozen? ⟨g, 7, none⟩ = false :=
  ⟨Blk.cellv h 0 rfl, Blk.cellv h 1 rfl, Blk.cellv h 2 rfl, Blk.cellv h 3 rfl, Blk.cellv h 4 rfl, Blk.cellv h 5 rfl, Blk.cellv h 6 rfl, Blk.cellv h 7 rfl, Blk.frozen h 0, Blk.frozen h 1, Blk.frozen h 2, Blk.frozen h 3, Blk.frozen h 4, Blk.frozen h 5, Blk.frozen h 6, Blk.frozen h 7⟩

@[irreducible] def store8 (p v : Value) : Sem Unit := Instr.storeAt 40 p v
theorem execOp_store8 (ρ : Operand → Value) (dst : Option Tmp) (x y : Operand) (ty : TypeId) (pos : String) (after : Array Edge) (guard : Option (Nat × Bool)) :
    execOp ρ { dst, op := .store 40 x y, type := ty, pos, after, guard } = (do store8 (ρ x) (ρ y); pure .skip) := by unfold store8; rfl
theorem run_store8 (w : World) (g : Nat) (a0 a1 a2 a3 a4 a5 a6 a7 : Int) (h : Z8 w g) :
    (store8 (.pointer (some ⟨g, 0, none⟩)) (.agg #[.int .u32 a0, .int .u32 a1, .int .u32 a2, .int .u32 a3, .int .u32 a4, .int .u32 a5, .int .u32 a6, .int .u32 a7])).run Tryd.prog w = .ok () (w.setRow g #[.int .u32 a0, .int .u32 a1, .int .u32 a2, .int .u32 a3, .int .u32 a4, .int .u32 a5, .int .u32 a6, .int .u32 a7]) := by
  unfold store8
  simp only [Instr.storeAt, Instr.sureAddr, Sem.run_bind, Sem.run_pure, Result.andThen_ok]
  exact run_storeVar_row w g 40 40 _ _ h (by kernel_rfl) rfl (by simp [Value.oneCell'])
theorem z8_at (w : World) : Z8 (w.alloc (.cells #[.int .u32 0, .int .u32 0, .int .u32 0, .int .u32 0, .int .u32 0, .int .u32 0, .int .u32 0, .int .u32 0] 40)) w.heap.size = True := eq_true (z8_new w rfl)
theorem z8_drew (w : World) (g : Nat) : Z8 w.drew g = Z8 w g := rfl
attribute [local go_sem ↓] execOp_store8
attribute [local go_sem] run_store8 z8_at z8_drew
theorem bk_setRow {a w : World} (h : Below a.heap.size a w) (g : Nat) (cs : Array Value) (hp : a.heap.size ≤ g) : Below a.heap.size a (w.setRow g cs) := below_setRow h hp cs

theorem have_ {P Q : Prop} (p : P) (q : P → Q) : Q := q p
theorem bk_drew {a w : World} (h : Below a.heap.size a w) : Below a.heap.size a w.drew := h.drew
theorem bk_alloc {a w : World} (h : Below a.heap.size a w) (o : Obj) : Below a.heap.size a (w.alloc o) := h.alloc h.size o
theorem bk_set {a w : World} (h : Below a.heap.size a w) (p : Addr) (u : Value) (hp : a.heap.size ≤ p.block) : Below a.heap.size a (w.setCell p u) := h.setCell hp u

theorem join_two (b cap : Nat) (A A2 : Option Addr) (m c m2 c2 : Nat) (t t2 : List UInt8) (w0 w' : World) (hbel : Below w0.heap.size w0 w') (hle : w0.heap.size ≤ w'.heap.size) (hb : b < w'.heap.size)
    (hc0 : w'.cell? ⟨b, 0, none⟩ = some (.slice A m c)) (hc1 : w'.cell? ⟨b, 1, none⟩ = some (.slice A2 m2 c2)) (hrt : Reads w0 w0.heap.size 1 A m (bv t)) (hrb : Reads w0 w0.heap.size 1 A2 m2 (bv t2)) (hm : m + m2 ≤ 100000) :
    Calls Tryd.prog 42 #[.slice (some ⟨b, 0, none⟩) 2 cap] w' fun e w'' =>
      ∃ A1 c1, e = .returned (.slice A1 (m + m2) c1) ∧ Reads w'' w''.heap.size 1 A1 (m + m2) (bv (t ++ t2)) ∧ In w'.heap.size w''.heap.size A1 ∧ m + m2 ≤ c1 ∧ c1 ≤ maxLen ∧ Below w0.heap.size w0 w'' ∧ Below w'.heap.size w' w'' := by
  have hlt : t.length = m := by have := hrt.1; simpa using this
  have hlb : t2.length = m2 := by have := hrb.1; simpa using this
  have hl : (flat [⟨A, m, c, t⟩, ⟨A2, m2, c2, t2⟩]).length = m + m2 := by rw [flat_two, List.length_append, hlt, hlb]
  refine (join_any b cap [⟨A, m, c, t⟩, ⟨A2, m2, c2, t2⟩] w' hb ?_ ?_ (by simp) (by omega)).mono ?_
  · intro i p hp
    match i, hp with
    | 0, hp => simp at hp; subst hp; exact hc0
    | 1, hp => simp at hp; subst hp; exact hc1
  · intro p hp
    simp only [List.mem_cons, List.not_mem_nil, or_false] at hp
    rcases hp with rfl | rfl
    · exact (hrt.below hbel).more hle
    · exact (hrb.below hbel).more hle
  · rintro e w'' ⟨v', rfl, hown, hb2⟩
    rw [hl, flat_two] at hown
    obtain ⟨A1, c1, rfl, h1, h2, _⟩ := own_form hown
    exact ⟨A1, c1, rfl, Reads.of_own hown, In.of_own hown, h1, h2, hbel.trans (hb2.mono hle), hb2⟩

theorem absorb_two (s : St) (A1 : Option Addr) (n c1 lo hi : Nat) (l : List UInt8) (w0 w' : World) (hs : s.ok) (hbel : Below w0.heap.size w0 w') (hle : w0.heap.size ≤ w'.heap.size) (hr : Reads w' w'.heap.size 1 A1 n (bv l)) (hfr : In lo hi A1) (h1 : n ≤ c1) (h2 : c1 ≤ maxLen) (hn : n ≤ 100000) (hrc : HasRc w') :
    Calls Tryd.prog 45 #[.agg #[.int .u32 (s.a : Int), .int .u32 (s.b : Int), .int .u32 (s.c : Int), .int .u32 (s.d : Int), .int .u32 (s.e : Int), .int .u32 (s.f : Int), .int .u32 (s.g : Int), .int .u32 (s.h : Int)], .slice A1 n c1] w' fun e w'' =>
      ∃ (S' : St) (A' : Option Addr) (c' : Nat), Hid (S' = absorbed s l (n / 64)) ∧ e = .returned (.tuple #[.agg #[.int .u32 (S'.a : Int), .int .u32 (S'.b : Int), .int .u32 (S'.c : Int), .int .u32 (S'.d : Int), .int .u32 (S'.e : Int), .int .u32 (S'.f : Int), .int .u32 (S'.g : Int), .int .u32 (S'.h : Int)], .slice A' (n % 64) c']) ∧
        Reads w'' w''.heap.size 1 A' (n % 64) (bv (l.drop (64 * (n / 64)))) ∧ In lo hi A' ∧ n % 64 ≤ c' ∧ c' ≤ maxLen ∧ Below w0.heap.size w0 w'' ∧ Below w'.heap.size w' w'' := by
  have h := absorb_any s A1 n c1 l w' hs hr h1 h2 hn hrc
  rw [vals_eq] at h
  refine h.mono ?_
  rintro e w'' ⟨A', c', rfl, hr', h1', h2', hf', hb'⟩
  refine ⟨_, A', c', Lib.hid rfl, ?_, hr'.more hb'.size, hfr.from_ hf', h1', h2', hbel.trans (hb'.mono hle), hb'⟩
  rw [vals_eq]
  rfl

/-- What the good case comes to. -/
def WrOk (s : St) (n m m2 : Nat) (l : List UInt8) (w : World) (e : Ending) (w' : World) : Prop :=
  ∃ (S' : St) (A' : Option Addr) (c' : Nat), Hid (S' = absorbed s l ((m + m2) / 64)) ∧ e = .returned (.tuple #[.agg (hashV S' (.slice A' ((m + m2) % 64) c') (n + m2)), .int .i64 0]) ∧
    Reads w' w'.heap.size 1 A' ((m + m2) % 64) (bv (l.drop (64 * ((m + m2) / 64)))) ∧ In w.heap.size w'.heap.size A' ∧ (m + m2) % 64 ≤ c' ∧ c' ≤ maxLen ∧ Below w.heap.size w w'
/-- A hash as cells, its length as a sum. -/
def hlit (S' : St) (v : Value) (k : Int) : Array Value := #[.int .u32 (S'.a : Int), .int .u32 (S'.b : Int), .int .u32 (S'.c : Int), .int .u32 (S'.d : Int), .int .u32 (S'.e : Int), .int .u32 (S'.f : Int), .int .u32 (S'.g : Int), .int .u32 (S'.h : Int), v, .int .u64 k]
theorem hlit_size (S' : St) (v : Value) (k : Int) : (hlit S' v k).size = 10 := rfl
theorem hlit_one (S' : St) (A : Option Addr) (m c : Nat) (k : Int) : (hlit S' (.slice A m c) k).all (·.oneCell') = true := by simp [hlit, Value.oneCell']
theorem hlit_info (S' : St) (v : Value) (k : Int) : (Tryd.prog.info? 42).map (·.size) = some (hlit S' v k).size := by rw [sizeH, hlit_size]
theorem hlit_old (S' : St) (v : Value) (k : Int) : zerosH.size = (hlit S' v k).size := by rw [zerosH_size, hlit_size]
theorem hlit_eq (S' : St) (v : Value) (n m2 : Nat) : hlit S' v ((n : Int) + (m2 : Int)) = hashV S' v (n + m2) := by
  unfold hlit hashV u32v
  rw [Int.natCast_add]

set_option maxHeartbeats 3200000 in
theorem write_ok (s : St) (A A2 : Option Addr) (m c n m2 c2 : Nat) (t b : List UInt8) (w : World) (hs0 : s.ok) (hrt : Reads w w.heap.size 1 A m (bv t)) (hrb : Reads w w.heap.size 1 A2 m2 (bv b)) (hm : m ≤ 64) (h0 : checkE m n = 0) (hx : ¬ (8192 : Int) - n < m2) (hn2 : n ≤ 8192) (hrc : HasRc w) :
    Calls Tryd.prog 23 #[.agg (hashV s (.slice A m c) n), .slice A2 m2 c2] w (WrOk s n m m2 (t ++ b) w) := by
  have hz := allocH
  have hck := fun W => check_any s A m c n W (by omega) (by omega)
  have b0 : Blk ((w.alloc (.cells (hashV s (.slice A m c) n) 42)).alloc (.cells zerosH 42)) w.heap.size 42 (hashV s (.slice A m c) n) := (Blk.new w _ _).alloc _
  have b1 : Blk ((w.alloc (.cells (hashV s (.slice A m c) n) 42)).alloc (.cells zerosH 42)) (w.heap.size + 1) 42 zerosH := by
    have := Blk.new (w.alloc (.cells (hashV s (.slice A m c) n) 42)) 42 zerosH
    simpa using this
  have hbel : Below w.heap.size w ((w.alloc (.cells (hashV s (.slice A m c) n) 42)).alloc (.cells zerosH 42)) := ((Below.refl _ _).alloc (Nat.le_refl _) _).alloc (by simp) _
  have hs : (Tryd.prog.info? 42).map (·.size) = some (hashV s (.slice A m c) n).size := by rw [sizeH, hashV_size]
  rw [h0] at hck
  have hcell9 : (hashV s (.slice A m c) n)[9]? = some (.int .u64 (n : Int)) := rfl
  have hcell8 : (hashV s (.slice A m c) n)[8]? = some (.slice A m c) := rfl
  have hcell0 : (hashV s (.slice A m c) n)[0]? = some (.int .u32 (s.a : Int)) := rfl
  have hcell1 : (hashV s (.slice A m c) n)[1]? = some (.int .u32 (s.b : Int)) := rfl
  have hcell2 : (hashV s (.slice A m c) n)[2]? = some (.int .u32 (s.c : Int)) := rfl
  have hcell3 : (hashV s (.slice A m c) n)[3]? = some (.int .u32 (s.d : Int)) := rfl
  have hcell4 : (hashV s (.slice A m c) n)[4]? = some (.int .u32 (s.e : Int)) := rfl
  have hcell5 : (hashV s (.slice A m c) n)[5]? = some (.int .u32 (s.f : Int)) := rfl
  have hcell6 : (hashV s (.slice A m c) n)[6]? = some (.int .u32 (s.g : Int)) := rfl
  have hcell7 : (hashV s (.slice A m c) n)[7]? = some (.int .u32 (s.h : Int)) := rfl
  generalize hashV s (.slice A m c) n = hv at *
  have CK := Lib.hid hck; have B0 := Lib.hid b0; have B1 := Lib.hid b1; have BB := Lib.hid hbel; have HS := Lib.hid hs
  clear hck b0 b1 hbel hs h0
  have HC := fun (w' : World) (hB : Blk w' w.heap.size 42 hv) => (⟨hB.cellv 0 hcell0, hB.cellv 1 hcell1, hB.cellv 2 hcell2, hB.cellv 3 hcell3, hB.cellv 4 hcell4, hB.cellv 5 hcell5, hB.cellv 6 hcell6, hB.cellv 7 hcell7, hB.cellv 8 hcell8, hB.cellv 9 hcell9⟩ :
    w'.cell? ⟨w.heap.size, 0, none⟩ = some (.int .u32 (s.a : Int)) ∧ w'.cell? ⟨w.heap.size, 1, none⟩ = some (.int .u32 (s.b : Int)) ∧ w'.cell? ⟨w.heap.size, 2, none⟩ = some (.int .u32 (s.c : Int)) ∧ w'.cell? ⟨w.heap.size, 3, none⟩ = some (.int .u32 (s.d : Int)) ∧
    w'.cell? ⟨w.heap.size, 4, none⟩ = some (.int .u32 (s.e : Int)) ∧ w'.cell? ⟨w.heap.size, 5, none⟩ = some (.int .u32 (s.f : Int)) ∧ w'.cell? ⟨w.heap.size, 6, none⟩ = some (.int .u32 (s.g : Int)) ∧ w'.cell? ⟨w.heap.size, 7, none⟩ = some (.int .u32 (s.h : Int)) ∧
    w'.cell? ⟨w.heap.size, 8, none⟩ = some (.slice A m c) ∧ w'.cell? ⟨w.heap.size, 9, none⟩ = some (.int .u64 (n : Int)))
  have HC2 := Lib.hid HC
  clear HC hcell0 hcell1 hcell2 hcell3 hcell4 hcell5 hcell6 hcell7 hcell8 hcell9
  go_enter Tryd.func23, Tryd.ntmps23
  go_wp2_with (first | (with_reducible refine wpList_alloc_named rfl 42 rfl zerosH hz ?_) | (refine wpList_load_row rfl 42 (.tmp 2) rfl w.heap.size rfl 42 hv (0, 0) _ B0.out Tryd.underlying42 rfl HS.out ?_))
  refine (CK.out _).mono ?_
  rintro e w3 ⟨rfl, hb3⟩
  have hsz := BB.out.size
  have hsz3 := Nat.le_trans hsz hb3.size
  have B3 := Lib.hid (B1.out.below hb3 B1.out.lt)
  have B4 := Lib.hid (B0.out.below hb3 B0.out.lt)
  have hb4 : Below w.heap.size w w3 := BB.out.trans (hb3.mono hsz)
  obtain ⟨k0, k1, k2, k3, k4, k5, k6, k7, k8, k9⟩ := HC2.out w3 B4.out
  have JN := Lib.hid (fun (w' : World) (b0 : Nat) hbel hle hlt hc0 hc1 => join_two b0 2 A A2 m c m2 c2 t b w3 w' hbel hle hlt hc0 hc1 ((hrt.below hb4).more hsz3) ((hrb.below hb4).more hsz3) (by omega))
  have AB := Lib.hid (fun (w' : World) (A1 : Option Addr) (c1 lo hi : Nat) (hbel : Below w3.heap.size w3 w') hle hr hfr h1 h2 => absorb_two s A1 (m + m2) c1 lo hi (t ++ b) w3 w' hs0 hbel hle hr hfr h1 h2 (by omega) ((hrc.below hb4 hrc.1).below hbel (Nat.le_trans hrc.1 hsz3)))
  have HK := Lib.hid (fun (w' : World) (hb : Below w3.heap.size w3 w') => (⟨hb, (hb.cell (by exact B4.out.lt)).trans k0, (hb.cell (by exact B4.out.lt)).trans k1, (hb.cell (by exact B4.out.lt)).trans k2, (hb.cell (by exact B4.out.lt)).trans k3, (hb.cell (by exact B4.out.lt)).trans k4, (hb.cell (by exact B4.out.lt)).trans k5, (hb.cell (by exact B4.out.lt)).trans k6, (hb.cell (by exact B4.out.lt)).trans k7, (hb.cell (by exact B4.out.lt)).trans k8, (hb.cell (by exact B4.out.lt)).trans k9⟩ :
    Below w3.heap.size w3 w' ∧ w'.cell? ⟨w.heap.size, 0, none⟩ = some (.int .u32 (s.a : Int)) ∧ w'.cell? ⟨w.heap.size, 1, none⟩ = some (.int .u32 (s.b : Int)) ∧ w'.cell? ⟨w.heap.size, 2, none⟩ = some (.int .u32 (s.c : Int)) ∧ w'.cell? ⟨w.heap.size, 3, none⟩ = some (.int .u32 (s.d : Int)) ∧
    w'.cell? ⟨w.heap.size, 4, none⟩ = some (.int .u32 (s.e : Int)) ∧ w'.cell? ⟨w.heap.size, 5, none⟩ = some (.int .u32 (s.f : Int)) ∧ w'.cell? ⟨w.heap.size, 6, none⟩ = some (.int .u32 (s.g : Int)) ∧ w'.cell? ⟨w.heap.size, 7, none⟩ = some (.int .u32 (s.h : Int)) ∧
    w'.cell? ⟨w.heap.size, 8, none⟩ = some (.slice A m c) ∧ w'.cell? ⟨w.heap.size, 9, none⟩ = some (.int .u64 (n : Int))))
  clear B0 B1 BB hb3
  go_wp2_with fail
  go_region_held3 (fun w' => Below w3.heap.size w3 w' ∧ w'.cell? ⟨w.heap.size, 0, none⟩ = some (.int .u32 (s.a : Int)) ∧ w'.cell? ⟨w.heap.size, 1, none⟩ = some (.int .u32 (s.b : Int)) ∧ w'.cell? ⟨w.heap.size, 2, none⟩ = some (.int .u32 (s.c : Int)) ∧ w'.cell? ⟨w.heap.size, 3, none⟩ = some (.int .u32 (s.d : Int)) ∧
    w'.cell? ⟨w.heap.size, 4, none⟩ = some (.int .u32 (s.e : Int)) ∧ w'.cell? ⟨w.heap.size, 5, none⟩ = some (.int .u32 (s.f : Int)) ∧ w'.cell? ⟨w.heap.size, 6, none⟩ = some (.int .u32 (s.g : Int)) ∧ w'.cell? ⟨w.heap.size, 7, none⟩ = some (.int .u32 (s.h : Int)) ∧
    w'.cell? ⟨w.heap.size, 8, none⟩ = some (.slice A m c) ∧ w'.cell? ⟨w.heap.size, 9, none⟩ = some (.int .u64 (n : Int)))
    (first
      | exact HK.out _ (Below.drew (Below.refl _ _))
      | (go_split_ands
         refine HK.out _ ?_
         repeat (first | (with_reducible assumption) | (with_reducible exact Below.refl _ _) | (with_reducible refine bk_drew ?_) | (with_reducible refine bk_alloc ?_ _) | (with_reducible refine bk_setRow ?_ _ _ (by first | exact Nat.le_refl _ | exact Nat.le_succ _ | exact hb4'.size | exact hb5.size)) | (with_reducible refine bk_set ?_ _ _ (by first | exact Nat.le_refl _ | exact Nat.le_succ _ | exact hb4'.size)))))
    (first
      | (go_at_call 42
         refine (JN.out _ _ (by go_split_ands; repeat (first | (with_reducible assumption) | (with_reducible exact Below.refl _ _) | (with_reducible refine bk_drew ?_) | (with_reducible refine bk_alloc ?_ _))) (by simp <;> omega) (by simp <;> omega) (by simp only [cell_drew]; first | exact two_cell0 _ _ _ _ | exact two_cell0b _ _ _ _ _ | exact two_cell0c _ _ _ _ (by simp)) (by simp only [cell_drew]; first | exact two_cell1 _ _ _ _ | exact two_cell1b _ _ _ _ _ | exact two_cell1c _ _ _ _ (by simp))).mono ?_
         rintro e w4 ⟨A1, c1, rfl, hr4, hf4, h41, h42, hb4', hb4w⟩
         (first
           | (refine have_ (P := Z8 w4 w3.heap.size) ?_ ?_
              · (refine Z8.below ?_ hb4w; repeat (first | (with_reducible exact z8_new _ rfl) | (refine z8_new _ ?_; simp; done) | (with_reducible refine Z8.drew ?_) | (with_reducible refine Z8.alloc ?_ _)))
              intro ZJ)
           | (refine have_ (P := Z8 w4 (w3.heap.size + 1)) ?_ ?_
              · (refine Z8.below ?_ hb4w; repeat (first | (with_reducible exact z8_new _ rfl) | (refine z8_new _ ?_; simp; done) | (with_reducible refine Z8.drew ?_) | (with_reducible refine Z8.alloc ?_ _)))
              intro ZJ)
           | skip))
      | (go_at_call 45
         refine (AB.out _ _ _ _ _ (by go_split_ands; repeat (first | (with_reducible assumption) | (with_reducible exact Below.refl _ _) | (with_reducible refine bk_drew ?_) | (with_reducible refine bk_alloc ?_ _))) (by go_split_ands; refine Below.size (B := w3.heap.size) ?_; repeat (first | (with_reducible assumption) | (with_reducible exact Below.refl _ _) | (with_reducible refine bk_drew ?_) | (with_reducible refine bk_alloc ?_ _))) (by first | exact hr4 | exact (hr4.alloc (Nat.le_refl _) _).more (by simp)) hf4 h41 h42).mono ?_
         rintro e w5 ⟨S', A', c', hS', rfl, hr5, hf5, h51, h52, hb5, hb5w⟩
         (first
           | have ZK : Z8 w5 w3.heap.size := Z8.below ZJ hb5w
           | have ZK : Z8 w5 (w3.heap.size + 1) := Z8.below ZJ hb5w
           | (refine have_ (P := Z8 w5 w4.heap.size) ?_ ?_
              · (refine Z8.below ?_ hb5w; repeat (first | (with_reducible exact z8_new _ rfl) | (refine z8_new _ ?_; simp; done) | (with_reducible refine Z8.drew ?_) | (with_reducible refine Z8.alloc ?_ _)))
              intro ZK)
           | skip)))
  · go_split_ands
    have BL := Lib.hid (B3.out.below (by assumption) B3.out.lt)
    go_wp2_with (first
      | (refine wpList_load_row rfl 40 (.tmp 7) rfl w5.heap.size rfl 40 #[.int .u32 (S'.a : Int), .int .u32 (S'.b : Int), .int .u32 (S'.c : Int), .int .u32 (S'.d : Int), .int .u32 (S'.e : Int), .int .u32 (S'.f : Int), .int .u32 (S'.g : Int), .int .u32 (S'.h : Int)] (0, 0) _ (by exact Blk.row (z8_new _ rfl) _) Tryd.underlying40 rfl size8 ?_)
      | (refine wpList_store_row rfl 42 (.tmp 4) (.tmp 42) rfl (w.heap.size + 1) (hlit S' (.slice A' ((m + m2) % 64) c') ((n : Int) + (m2 : Int))) rfl rfl 42 zerosH BL.out (hlit_info _ _ _) (hlit_old _ _ _) (hlit_one _ _ _ _ _) ?_))
    have hw1 : w.heap.size + 1 < w3.heap.size := B3.out.lt
    have q := hb5w.size
    exact bodyPost_ret (results_row_tmp rfl _ _ (w.heap.size + 1) 42 (hlit S' (.slice A' ((m + m2) % 64) c') ((n : Int) + (m2 : Int))) (0, 0) _ rfl (BL.out.row _) Tryd.underlying42 rfl (hlit_info _ _ _)) rfl
      ⟨S', A', c', hS', by rw [hlit_eq]; rfl, ((((hr5.alloc (Nat.le_refl _) _).row hf5 (Or.inr (by first | omega | (simp at q ⊢ <;> omega) | (simp at q <;> omega) | (simp <;> omega))) _).row hf5 (Or.inl (by first | omega | (simp <;> omega))) _).more (by simp)), hf5.less (by first | omega | (simp <;> omega)) (by first | omega | (simp at q ⊢ <;> omega) | (simp at q <;> omega) | (simp <;> omega)), h51, h52, below_setRow (hb4.trans (Below.mono (by assumption) hsz3)) (by omega) _⟩
  · go_split_ands
    have BL := Lib.hid (B3.out.below (by assumption) B3.out.lt)
    go_wp2_with (first
      | (refine wpList_load_row rfl 40 (.tmp 7) rfl w4.heap.size rfl 40 #[.int .u32 (S'.a : Int), .int .u32 (S'.b : Int), .int .u32 (S'.c : Int), .int .u32 (S'.d : Int), .int .u32 (S'.e : Int), .int .u32 (S'.f : Int), .int .u32 (S'.g : Int), .int .u32 (S'.h : Int)] (0, 0) _ (by exact Blk.row ZK _) Tryd.underlying40 rfl size8 ?_)
      | (refine wpList_store_row rfl 42 (.tmp 4) (.tmp 42) rfl (w.heap.size + 1) (hlit S' (.slice A' ((m + m2) % 64) c') ((n : Int) + (m2 : Int))) rfl rfl 42 zerosH BL.out (hlit_info _ _ _) (hlit_old _ _ _) (hlit_one _ _ _ _ _) ?_))
    have hw1 : w.heap.size + 1 < w3.heap.size := B3.out.lt
    have q := hb5w.size
    exact bodyPost_ret (results_row_tmp rfl _ _ (w.heap.size + 1) 42 (hlit S' (.slice A' ((m + m2) % 64) c') ((n : Int) + (m2 : Int))) (0, 0) _ rfl (BL.out.row _) Tryd.underlying42 rfl (hlit_info _ _ _)) rfl
      ⟨S', A', c', hS', by rw [hlit_eq]; rfl, ((((hr5).row hf5 (Or.inr (by first | omega | (simp at q ⊢ <;> omega) | (simp at q <;> omega) | (simp <;> omega))) _).row hf5 (Or.inl (by first | omega | (simp <;> omega))) _).more (by simp)), hf5.less (by first | omega | (simp <;> omega)) (by first | omega | (simp at q ⊢ <;> omega) | (simp at q <;> omega) | (simp <;> omega)), h51, h52, below_setRow (hb4.trans (Below.mono (by assumption) hsz3)) (by omega) _⟩
  · go_split_ands
    have BL := Lib.hid (B3.out.below (by assumption) B3.out.lt)
    go_wp2_with (first
      | (refine wpList_load_row rfl 40 (.tmp 7) rfl (w3.heap.size + 1) rfl 40 #[.int .u32 (S'.a : Int), .int .u32 (S'.b : Int), .int .u32 (S'.c : Int), .int .u32 (S'.d : Int), .int .u32 (S'.e : Int), .int .u32 (S'.f : Int), .int .u32 (S'.g : Int), .int .u32 (S'.h : Int)] (0, 0) _ (by exact Blk.row ZK _) Tryd.underlying40 rfl size8 ?_)
      | (refine wpList_store_row rfl 42 (.tmp 4) (.tmp 42) rfl (w.heap.size + 1) (hlit S' (.slice A' ((m + m2) % 64) c') ((n : Int) + (m2 : Int))) rfl rfl 42 zerosH BL.out (hlit_info _ _ _) (hlit_old _ _ _) (hlit_one _ _ _ _ _) ?_))
    have hw1 : w.heap.size + 1 < w3.heap.size := B3.out.lt
    have q := hb5w.size
    exact bodyPost_ret (results_row_tmp rfl _ _ (w.heap.size + 1) 42 (hlit S' (.slice A' ((m + m2) % 64) c') ((n : Int) + (m2 : Int))) (0, 0) _ rfl (BL.out.row _) Tryd.underlying42 rfl (hlit_info _ _ _)) rfl
      ⟨S', A', c', hS', by rw [hlit_eq]; rfl, ((((hr5).row hf5 (Or.inl (by simp <;> omega)) _).row hf5 (Or.inl (by first | omega | (simp <;> omega))) _).more (by simp)), hf5.less (by first | omega | (simp <;> omega)) (by first | omega | (simp at q ⊢ <;> omega) | (simp at q <;> omega) | (simp <;> omega)), h51, h52, below_setRow (hb4.trans (Below.mono (by assumption) hsz3)) (by omega) _⟩
  · go_split_ands
    have BL := Lib.hid (B3.out.below (by assumption) B3.out.lt)
    go_wp2_with (first
      | (refine wpList_load_row rfl 40 (.tmp 7) rfl w3.heap.size rfl 40 #[.int .u32 (S'.a : Int), .int .u32 (S'.b : Int), .int .u32 (S'.c : Int), .int .u32 (S'.d : Int), .int .u32 (S'.e : Int), .int .u32 (S'.f : Int), .int .u32 (S'.g : Int), .int .u32 (S'.h : Int)] (0, 0) _ (by exact Blk.row ZK _) Tryd.underlying40 rfl size8 ?_)
      | (refine wpList_store_row rfl 42 (.tmp 4) (.tmp 42) rfl (w.heap.size + 1) (hlit S' (.slice A' ((m + m2) % 64) c') ((n : Int) + (m2 : Int))) rfl rfl 42 zerosH BL.out (hlit_info _ _ _) (hlit_old _ _ _) (hlit_one _ _ _ _ _) ?_))
    have hw1 : w.heap.size + 1 < w3.heap.size := B3.out.lt
    have q := hb5w.size
    exact bodyPost_ret (results_row_tmp rfl _ _ (w.heap.size + 1) 42 (hlit S' (.slice A' ((m + m2) % 64) c') ((n : Int) + (m2 : Int))) (0, 0) _ rfl (BL.out.row _) Tryd.underlying42 rfl (hlit_info _ _ _)) rfl
      ⟨S', A', c', hS', by rw [hlit_eq]; rfl, ((((hr5).row hf5 (Or.inl (by simp <;> omega)) _).row hf5 (Or.inl (by first | omega | (simp <;> omega))) _).more (by simp)), hf5.less (by first | omega | (simp <;> omega)) (by first | omega | (simp at q ⊢ <;> omega) | (simp at q <;> omega) | (simp <;> omega)), h51, h52, below_setRow (hb4.trans (Below.mono (by assumption) hsz3)) (by omega) _⟩
end Go.Proofs.YtpoppfmlphkakaaDoor
