/-
  FINISH: the contract of digest.Finish.
-/
import Derived.Test.YtpoppfmlphkakaaDoorWrite
import Derived.Deep.RegionHeld3
import Derived.Deep.DeepCutAuto
namespace Go.Proofs.YtpoppfmlphkakaaDoor
set_option linter.unusedVariables false
set_option linter.unusedSimpArgs false
set_option maxRecDepth 100000
open Go.RowKit

@[irreducible] def zeros32 : Array Value := (bv (List.replicate 32 0)).toArray
theorem zeros32_size : zeros32.size = 32 := by unfold zeros32; simp
theorem zeros32_list : zeros32.toList = bv (List.replicate 32 0) := by unfold zeros32; rfl
theorem alloc32 : ∀ w : World, (Instr.alloc 35 true (.tuple #[])).run Tryd.prog w = .ok (.pointer (some ⟨w.heap.size, 0, none⟩)) (w.alloc (.cells zeros32 35)) := fun _ => by unfold zeros32; kernel_rfl
theorem size32 : (Tryd.prog.info? 35).map (·.size) = some 32 := by kernel_rfl

/-- The words in bytes, each highest first. -/
def sumBytes (s : St) : List UInt8 := s.list.flatMap fun x => be x 4
theorem flat4_length (l : List Nat) : (l.flatMap fun x => be x 4).length = 4 * l.length := by
  induction l with
  | nil => rfl
  | cons a l ih => rw [List.flatMap_cons, List.length_append, be_length, ih, List.length_cons]; omega
theorem sumBytes_length (s : St) : (sumBytes s).length = 32 := by rw [sumBytes, flat4_length]; rfl
theorem be4 (x : Nat) : be x 4 = [UInt8.ofNat (x / 256 ^ 3), UInt8.ofNat (x / 256 ^ 2), UInt8.ofNat (x / 256 ^ 1), UInt8.ofNat (x / 256 ^ 0)] := by
  rw [be_cons, be_cons, be_cons, be_cons]; rfl
theorem flat4_at (l : List Nat) (k j x : Nat) (hj : j < 4) (h : l[k]? = some x) : (l.flatMap fun x => be x 4)[4 * k + j]? = some (UInt8.ofNat (x / 256 ^ (3 - j))) := by
  induction l generalizing k with
  | nil => simp at h
  | cons a l ih =>
    rw [List.flatMap_cons]
    cases k with
    | zero =>
      simp at h
      subst h
      rw [List.getElem?_append_left (by rw [be_length]; omega), be4]
      match j, hj with
      | 0, _ => rfl
      | 1, _ => rfl
      | 2, _ => rfl
      | 3, _ => rfl
    | succ k =>
      rw [List.getElem?_append_right (by rw [be_length]; omega), be_length, show 4 * (k + 1) + j - 4 = 4 * k + j from by omega]
      exact ih k (by simpa using h)
/-- 32 bytes, the first i of them set. -/
def fill (D : List UInt8) (i : Nat) : Array Value := (bv (D.take i ++ List.replicate (32 - i) 0)).toArray
theorem fill_size {D : List UInt8} (hD : D.length = 32) {i : Nat} (hi : i ≤ 32) : (fill D i).size = 32 := by
  simp [fill, hD]; omega
theorem fill_zero (D : List UInt8) : fill D 0 = zeros32 := by unfold fill zeros32; simp
theorem fill_full {D : List UInt8} (hD : D.length = 32) : fill D 32 = (bv D).toArray := by unfold fill; rw [List.take_of_length_le (by omega)]; simp
theorem fill_at {D : List UInt8} (hD : D.length = 32) {i : Nat} (hi : i < 32) : (fill D i)[i]? = some (.int .u8 0) := by
  unfold fill
  rw [List.getElem?_toArray, bv, List.getElem?_map, List.getElem?_append_right (by simp; omega), List.length_take, hD, Nat.min_eq_left (by omega), Nat.sub_self, List.getElem?_replicate, if_pos (by omega)]
  rfl
theorem fill_set {D : List UInt8} (hD : D.length = 32) {i : Nat} (hi : i < 32) {b : UInt8} (hb : D[i]? = some b) : (fill D i).setIfInBounds i (u8v b) = fill D (i + 1) := by
  unfold fill
  rw [List.setIfInBounds_toArray, bv_set]
  congr 2
  have hl : (D.take i).length = i := by rw [List.length_take, hD]; omega
  rw [List.set_append_right _ _ (by omega), hl, Nat.sub_self, show 32 - i = (32 - (i + 1)) + 1 from by omega, List.replicate_succ, List.set_cons_zero, List.take_add_one, hb]
  simp
theorem u8_shift (x j : Nat) (hj : j < 4) : Value.int .u8 ((x : Int) / 2 ^ (24 - 8 * j) % 256) = u8v (UInt8.ofNat (x / 256 ^ (3 - j))) := by
  rw [show 24 - 8 * j = 8 * (3 - j) from by omega]
  exact u8v_shr x (3 - j)

/-- 'join' of two pieces that a literal lays, both known at the world of the call. -/
theorem join_here (b cap : Nat) (A A2 : Option Addr) (m c m2 c2 : Nat) (t t2 : List UInt8) (w0 w' : World) (hbel : Below w0.heap.size w0 w') (hle : w0.heap.size ≤ w'.heap.size) (hb : b < w'.heap.size)
    (hc0 : w'.cell? ⟨b, 0, none⟩ = some (.slice A m c)) (hc1 : w'.cell? ⟨b, 1, none⟩ = some (.slice A2 m2 c2)) (hrt : Reads w' w'.heap.size 1 A m (bv t)) (hrb : Reads w' w'.heap.size 1 A2 m2 (bv t2)) (hm : m + m2 ≤ 100000) :
    Calls Tryd.prog 42 #[.slice (some ⟨b, 0, none⟩) 2 cap] w' fun e w'' =>
      ∃ A1 c1, e = .returned (.slice A1 (m + m2) c1) ∧ Reads w'' w''.heap.size 1 A1 (m + m2) (bv (t ++ t2)) ∧ In w'.heap.size w''.heap.size A1 ∧ m + m2 ≤ c1 ∧ c1 ≤ maxLen ∧ Below w0.heap.size w0 w'' ∧ Below w'.heap.size w' w'' := by
  have hlt : t.length = m := by have := hrt.1; simpa using this
  have hlb : t2.length = m2 := by have := hrb.1; simpa using this
  have hl : (flat [⟨A, m, c, t⟩, ⟨A2, m2, c2, t2⟩]).length = m + m2 := by rw [flat_two, List.length_append, hlt, hlb]
  refine (join_any b cap [⟨A, m, c, t⟩, ⟨A2, m2, c2, t2⟩] w' hb ?_ ?_ (by simp) (by omega)).mono ?_
  · intro i p hp
    match i, hp with
    | 0, hp => simp at hp; subst hp; exact hc0
    | 1, hp => simp at hp; subst hp; exact hc1
  · intro p hp
    simp only [List.mem_cons, List.not_mem_nil, or_false] at hp
    rcases hp with rfl | rfl
    · exact hrt
    · exact hrb
  · rintro e w'' ⟨v', rfl, hown, hb2⟩
    rw [hl, flat_two] at hown
    obtain ⟨A1, c1, rfl, h1, h2, _⟩ := own_form hown
    exact ⟨A1, c1, rfl, Reads.of_own hown, In.of_own hown, h1, h2, hbel.trans (hb2.mono hle), hb2⟩

theorem padding_two (n : Nat) (w0 w' : World) (hn : n ≤ 8192) (hbel : Below w0.heap.size w0 w') (hle : w0.heap.size ≤ w'.heap.size) (p : Nat) (hp : p = (padBytes n).length) :
    Calls Tryd.prog 56 #[.int .u64 (n : Int)] w' fun e w'' =>
      ∃ A2 c2, e = .returned (.slice A2 p c2) ∧ Reads w'' w''.heap.size 1 A2 p (bv (padBytes n)) ∧ Below w0.heap.size w0 w'' ∧ Below w'.heap.size w' w'' := by
  subst hp
  refine (padding_any n w' hn).mono ?_
  rintro e w'' ⟨v', rfl, hown, hb2⟩
  obtain ⟨A1, c1, rfl, h1, h2, _⟩ := own_form hown
  exact ⟨A1, c1, rfl, Reads.of_own hown, hbel.trans (hb2.mono hle), hb2⟩
theorem reads_up {w : World} {size n : Nat} {A : Option Addr} {xs : List Value} (h : Reads w w.heap.size size A n xs) (o : Obj) : Reads (w.alloc o) (w.alloc o).heap.size size A n xs := (h.alloc (Nat.le_refl _) o).more (by simp)
theorem reads_drew {w : World} {size n : Nat} {A : Option Addr} {xs : List Value} (h : Reads w w.heap.size size A n xs) : Reads w.drew w.drew.heap.size size A n xs := h

attribute [local go_sem ↓] execOp_store8
attribute [local go_sem] run_store8 z8_at z8_drew

set_option maxHeartbeats 3200000 in
theorem finish_ok (s : St) (A : Option Addr) (m c n : Nat) (t : List UInt8) (w : World) (hs0 : s.ok) (hrt : Reads w w.heap.size 1 A m (bv t)) (hm : m ≤ 64) (h0 : checkE m n = 0) (hn2 : n ≤ 8192) (hrc : HasRc w) :
    Calls Tryd.prog 33 #[.agg (hashV s (.slice A m c) n)] w fun e w' => e = .returned (.tuple #[.agg (bv (sumBytes (absorbed s (t ++ padBytes n) ((m + (padBytes n).length) / 64)))).toArray, .int .i64 0]) ∧ Below w.heap.size w w' := by
  have hz := allocH
  have hz32 := alloc32
  have hck := fun W => check_any s A m c n W (by omega) (by omega)
  have b0 : Blk ((w.alloc (.cells (hashV s (.slice A m c) n) 42)).alloc (.cells zeros32 35)) w.heap.size 42 (hashV s (.slice A m c) n) := (Blk.new w _ _).alloc _
  have b1 : Blk ((w.alloc (.cells (hashV s (.slice A m c) n) 42)).alloc (.cells zeros32 35)) (w.heap.size + 1) 35 zeros32 := by
    have := Blk.new (w.alloc (.cells (hashV s (.slice A m c) n) 42)) 35 zeros32
    simpa using this
  have hbel : Below w.heap.size w ((w.alloc (.cells (hashV s (.slice A m c) n) 42)).alloc (.cells zeros32 35)) := ((Below.refl _ _).alloc (Nat.le_refl _) _).alloc (by simp) _
  have hs : (Tryd.prog.info? 42).map (·.size) = some (hashV s (.slice A m c) n).size := by rw [sizeH, hashV_size]
  rw [h0] at hck
  have hcell9 : (hashV s (.slice A m c) n)[9]? = some (.int .u64 (n : Int)) := rfl
  have hcell8 : (hashV s (.slice A m c) n)[8]? = some (.slice A m c) := rfl
  have hcell0 : (hashV s (.slice A m c) n)[0]? = some (.int .u32 (s.a : Int)) := rfl
  have hcell1 : (hashV s (.slice A m c) n)[1]? = some (.int .u32 (s.b : Int)) := rfl
  have hcell2 : (hashV s (.slice A m c) n)[2]? = some (.int .u32 (s.c : Int)) := rfl
  have hcell3 : (hashV s (.slice A m c) n)[3]? = some (.int .u32 (s.d : Int)) := rfl
  have hcell4 : (hashV s (.slice A m c) n)[4]? = some (.int .u32 (s.e : Int)) := rfl
  have hcell5 : (hashV s (.slice A m c) n)[5]? = some (.int .u32 (s.f : Int)) := rfl
  have hcell6 : (hashV s (.slice A m c) n)[6]? = some (.int .u32 (s.g : Int)) := rfl
  have hcell7 : (hashV s (.slice A m c) n)[7]? = some (.int .u32 (s.h : Int)) := rfl
  generalize hashV s (.slice A m c) n = hv at *
  have CK := Lib.hid hck; have B0 := Lib.hid b0; have B1 := Lib.hid b1; have BB := Lib.hid hbel; have HS := Lib.hid hs
  clear hck b0 b1 hbel hs h0
  have HC := fun (w' : World) (hB : Blk w' w.heap.size 42 hv) => (⟨hB.cellv 0 hcell0, hB.cellv 1 hcell1, hB.cellv 2 hcell2, hB.cellv 3 hcell3, hB.cellv 4 hcell4, hB.cellv 5 hcell5, hB.cellv 6 hcell6, hB.cellv 7 hcell7, hB.cellv 8 hcell8, hB.cellv 9 hcell9⟩ :
    w'.cell? ⟨w.heap.size, 0, none⟩ = some (.int .u32 (s.a : Int)) ∧ w'.cell? ⟨w.heap.size, 1, none⟩ = some (.int .u32 (s.b : Int)) ∧ w'.cell? ⟨w.heap.size, 2, none⟩ = some (.int .u32 (s.c : Int)) ∧ w'.cell? ⟨w.heap.size, 3, none⟩ = some (.int .u32 (s.d : Int)) ∧
    w'.cell? ⟨w.heap.size, 4, none⟩ = some (.int .u32 (s.e : Int)) ∧ w'.cell? ⟨w.heap.size, 5, none⟩ = some (.int .u32 (s.f : Int)) ∧ w'.cell? ⟨w.heap.size, 6, none⟩ = some (.int .u32 (s.g : Int)) ∧ w'.cell? ⟨w.heap.size, 7, none⟩ = some (.int .u32 (s.h : Int)) ∧
    w'.cell? ⟨w.heap.size, 8, none⟩ = some (.slice A m c) ∧ w'.cell? ⟨w.heap.size, 9, none⟩ = some (.int .u64 (n : Int)))
  have HC2 := Lib.hid HC
  clear HC hcell0 hcell1 hcell2 hcell3 hcell4 hcell5 hcell6 hcell7 hcell8 hcell9
  go_enter Tryd.func33, Tryd.ntmps33
  go_wp2_with (first | (with_reducible refine wpList_alloc_named rfl 35 rfl zeros32 hz32 ?_) | (refine wpList_load_row rfl 42 (.tmp 1) rfl w.heap.size rfl 42 hv (0, 0) _ B0.out Tryd.underlying42 rfl HS.out ?_))
  refine (CK.out _).mono ?_
  rintro e w3 ⟨rfl, hb3⟩
  have hsz := BB.out.size
  have hsz3 := Nat.le_trans hsz hb3.size
  have B3 := Lib.hid (B1.out.below hb3 B1.out.lt)
  have B4 := Lib.hid (B0.out.below hb3 B0.out.lt)
  have hb4 : Below w.heap.size w w3 := BB.out.trans (hb3.mono hsz)
  obtain ⟨k0, k1, k2, k3, k4, k5, k6, k7, k8, k9⟩ := HC2.out w3 B4.out
  clear B0 B1 BB hb3
  obtain ⟨p, hp⟩ : ∃ p, p = (padBytes n).length := ⟨_, rfl⟩
  have hpl : p ≤ 100 := by rw [hp, padBytes_length]; omega
  have PD := Lib.hid (fun (w' : World) hbel hle => padding_two n w3 w' hn2 hbel hle p hp)
  have JN := Lib.hid (fun (w' : World) (b0 : Nat) (A2 : Option Addr) (c2 : Nat) hbel hle hlt hc0 hc1 hrb => join_here b0 2 A A2 m c p c2 t (padBytes n) w3 w' hbel hle hlt hc0 hc1 ((((hrt.below hb4).more hsz3).below hbel).more hle) hrb (by omega))
  have AB := Lib.hid (fun (w' : World) (A1 : Option Addr) (c1 lo hi : Nat) (hbel : Below w3.heap.size w3 w') hle hr hfr h1 h2 => absorb_two s A1 (m + p) c1 lo hi (t ++ padBytes n) w3 w' hs0 hbel hle hr hfr h1 h2 (by omega) ((hrc.below hb4 hrc.1).below hbel (Nat.le_trans hrc.1 hsz3)))
  have HK := Lib.hid (fun (w' : World) (hb : Below w3.heap.size w3 w') => (⟨hb, (hb.cell (by exact B4.out.lt)).trans k0, (hb.cell (by exact B4.out.lt)).trans k1, (hb.cell (by exact B4.out.lt)).trans k2, (hb.cell (by exact B4.out.lt)).trans k3, (hb.cell (by exact B4.out.lt)).trans k4, (hb.cell (by exact B4.out.lt)).trans k5, (hb.cell (by exact B4.out.lt)).trans k6, (hb.cell (by exact B4.out.lt)).trans k7, (hb.cell (by exact B4.out.lt)).trans k8, (hb.cell (by exact B4.out.lt)).trans k9⟩ :
    Below w3.heap.size w3 w' ∧ w'.cell? ⟨w.heap.size, 0, none⟩ = some (.int .u32 (s.a : Int)) ∧ w'.cell? ⟨w.heap.size, 1, none⟩ = some (.int .u32 (s.b : Int)) ∧ w'.cell? ⟨w.heap.size, 2, none⟩ = some (.int .u32 (s.c : Int)) ∧ w'.cell? ⟨w.heap.size, 3, none⟩ = some (.int .u32 (s.d : Int)) ∧ w'.cell? ⟨w.heap.size, 4, none⟩ = some (.int .u32 (s.e : Int)) ∧ w'.cell? ⟨w.heap.size, 5, none⟩ = some (.int .u32 (s.f : Int)) ∧ w'.cell? ⟨w.heap.size, 6, none⟩ = some (.int .u32 (s.g : Int)) ∧ w'.cell? ⟨w.heap.size, 7, none⟩ = some (.int .u32 (s.h : Int)) ∧ w'.cell? ⟨w.heap.size, 8, none⟩ = some (.slice A m c) ∧ w'.cell? ⟨w.heap.size, 9, none⟩ = some (.int .u64 (n : Int))))
  have HP := Lib.hid hp
  clear hp
  go_upto_region 4 with fail
  go_cut [5] (fun s5 wx => ∃ (g : Nat) (S' : St), Hid (S' = absorbed s (t ++ padBytes n) ((m + p) / 64)) ∧ s5 = .pointer (some ⟨g, 0, none⟩) ∧ Hid (Blk wx g 40 #[.int .u32 (S'.a : Int), .int .u32 (S'.b : Int), .int .u32 (S'.c : Int), .int .u32 (S'.d : Int), .int .u32 (S'.e : Int), .int .u32 (S'.f : Int), .int .u32 (S'.g : Int), .int .u32 (S'.h : Int)]) ∧ w3.heap.size ≤ g ∧ Below w3.heap.size w3 wx)
  case first =>
    go_region_held3 (fun w' => Below w3.heap.size w3 w' ∧ w'.cell? ⟨w.heap.size, 0, none⟩ = some (.int .u32 (s.a : Int)) ∧ w'.cell? ⟨w.heap.size, 1, none⟩ = some (.int .u32 (s.b : Int)) ∧ w'.cell? ⟨w.heap.size, 2, none⟩ = some (.int .u32 (s.c : Int)) ∧ w'.cell? ⟨w.heap.size, 3, none⟩ = some (.int .u32 (s.d : Int)) ∧ w'.cell? ⟨w.heap.size, 4, none⟩ = some (.int .u32 (s.e : Int)) ∧ w'.cell? ⟨w.heap.size, 5, none⟩ = some (.int .u32 (s.f : Int)) ∧ w'.cell? ⟨w.heap.size, 6, none⟩ = some (.int .u32 (s.g : Int)) ∧ w'.cell? ⟨w.heap.size, 7, none⟩ = some (.int .u32 (s.h : Int)) ∧ w'.cell? ⟨w.heap.size, 8, none⟩ = some (.slice A m c) ∧ w'.cell? ⟨w.heap.size, 9, none⟩ = some (.int .u64 (n : Int)))
      (first
        | exact HK.out _ (Below.drew (Below.refl _ _))
        | (go_split_ands
           refine HK.out _ ?_
           repeat (first | (with_reducible assumption) | (with_reducible exact Below.refl _ _) | (with_reducible refine bk_drew ?_) | (with_reducible refine bk_alloc ?_ _) | (with_reducible refine bk_setRow ?_ _ _ (by first | exact Nat.le_refl _ | exact Nat.le_succ _ | exact hb4'.size | exact Nat.le_succ_of_le hb4'.size | exact hb5'.size | exact hb6'.size)))))
      (first
        | (go_at_call 56
           refine (PD.out _ (by go_split_ands; repeat (first | (with_reducible assumption) | (with_reducible exact Below.refl _ _) | (with_reducible refine bk_drew ?_) | (with_reducible refine bk_alloc ?_ _))) (by go_split_ands; refine Below.size (B := w3.heap.size) ?_; repeat (first | (with_reducible assumption) | (with_reducible exact Below.refl _ _) | (with_reducible refine bk_drew ?_) | (with_reducible refine bk_alloc ?_ _)))).mono ?_
           rintro e w4 ⟨A2, c2, rfl, hr4, hb4', hb4w⟩
           (first
           | (refine have_ (P := Z8 w4 w3.heap.size) ?_ ?_
              · (refine Z8.below ?_ hb4w; repeat (first | (with_reducible exact ZP) | (with_reducible exact z8_new _ rfl) | (refine z8_new _ ?_; simp; done) | (with_reducible refine Z8.drew ?_) | (with_reducible refine Z8.alloc ?_ _)))
              intro ZP)
           | skip))
        | (go_at_call 42
           refine (JN.out _ _ A2 c2 (by go_split_ands; repeat (first | (with_reducible assumption) | (with_reducible exact Below.refl _ _) | (with_reducible refine bk_drew ?_) | (with_reducible refine bk_alloc ?_ _))) (by go_split_ands; refine Below.size (B := w3.heap.size) ?_; repeat (first | (with_reducible assumption) | (with_reducible exact Below.refl _ _) | (with_reducible refine bk_drew ?_) | (with_reducible refine bk_alloc ?_ _))) (by simp <;> omega) (by (try simp only [cell_drew]); first | exact two_cell0 _ _ _ _ | exact two_cell0b _ _ _ _ _ | exact two_cell0c _ _ _ _ (by simp)) (by (try simp only [cell_drew]); first | exact two_cell1 _ _ _ _ | exact two_cell1b _ _ _ _ _ | exact two_cell1c _ _ _ _ (by simp)) (by repeat (first | (with_reducible exact hr4) | (with_reducible refine reads_drew ?_) | (with_reducible refine reads_up ?_ _)))).mono ?_
           rintro e w5 ⟨A1, c1, rfl, hr5, hf5, h51, h52, hb5', hb5w⟩
           (first
           | (refine have_ (P := Z8 w5 w3.heap.size) ?_ ?_
              · (refine Z8.below ?_ hb5w; repeat (first | (with_reducible exact ZP) | (with_reducible exact z8_new _ rfl) | (refine z8_new _ ?_; simp; done) | (with_reducible refine Z8.drew ?_) | (with_reducible refine Z8.alloc ?_ _)))
              intro ZJ)
           | (refine have_ (P := Z8 w5 w4.heap.size) ?_ ?_
              · (refine Z8.below ?_ hb5w; repeat (first | (with_reducible exact ZP) | (with_reducible exact z8_new _ rfl) | (refine z8_new _ ?_; simp; done) | (with_reducible refine Z8.drew ?_) | (with_reducible refine Z8.alloc ?_ _)))
              intro ZJ)
           | (refine have_ (P := Z8 w5 (w4.heap.size + 1)) ?_ ?_
              · (refine Z8.below ?_ hb5w; repeat (first | (with_reducible exact ZP) | (with_reducible exact z8_new _ rfl) | (refine z8_new _ ?_; simp; done) | (with_reducible refine Z8.drew ?_) | (with_reducible refine Z8.alloc ?_ _)))
              intro ZJ)
           | skip))
        | (go_at_call 45
           refine (AB.out _ _ _ _ _ (by go_split_ands; repeat (first | (with_reducible assumption) | (with_reducible exact Below.refl _ _) | (with_reducible refine bk_drew ?_) | (with_reducible refine bk_alloc ?_ _))) (by go_split_ands; refine Below.size (B := w3.heap.size) ?_; repeat (first | (with_reducible assumption) | (with_reducible exact Below.refl _ _) | (with_reducible refine bk_drew ?_) | (with_reducible refine bk_alloc ?_ _))) (by repeat (first | (with_reducible exact hr5) | (with_reducible refine reads_drew ?_) | (with_reducible refine reads_up ?_ _))) hf5 h51 h52).mono ?_
           rintro e w6 ⟨S', A', c', hS', rfl, hr6, hf6, h61, h62, hb6', hb6w⟩
           (first
           | (refine have_ (P := Z8 w6 w3.heap.size) ?_ ?_
              · (refine Z8.below ?_ hb6w; repeat (first | (with_reducible exact ZJ) | (with_reducible exact z8_new _ rfl) | (refine z8_new _ ?_; simp; done) | (with_reducible refine Z8.drew ?_) | (with_reducible refine Z8.alloc ?_ _)))
              intro ZK)
           | (refine have_ (P := Z8 w6 w4.heap.size) ?_ ?_
              · (refine Z8.below ?_ hb6w; repeat (first | (with_reducible exact ZJ) | (with_reducible exact z8_new _ rfl) | (refine z8_new _ ?_; simp; done) | (with_reducible refine Z8.drew ?_) | (with_reducible refine Z8.alloc ?_ _)))
              intro ZK)
           | (refine have_ (P := Z8 w6 (w4.heap.size + 1)) ?_ ?_
              · (refine Z8.below ?_ hb6w; repeat (first | (with_reducible exact ZJ) | (with_reducible exact z8_new _ rfl) | (refine z8_new _ ?_; simp; done) | (with_reducible refine Z8.drew ?_) | (with_reducible refine Z8.alloc ?_ _)))
              intro ZK)
           | (refine have_ (P := Z8 w6 w5.heap.size) ?_ ?_
              · (refine Z8.below ?_ hb6w; repeat (first | (with_reducible exact ZJ) | (with_reducible exact z8_new _ rfl) | (refine z8_new _ ?_; simp; done) | (with_reducible refine Z8.drew ?_) | (with_reducible refine Z8.alloc ?_ _)))
              intro ZK)
           | skip)))
    all_goals (go_wp2_with fail; go_split_ands; go_meet; exact ⟨_, S', hS', rfl, Lib.hid (by first | exact Blk.row ZK _ | exact Blk.row (z8_new _ rfl) _), (by first | exact Nat.le_refl _ | exact Nat.le_succ _ | exact hb4'.size | exact Nat.le_succ_of_le hb4'.size | exact hb5'.size | exact hb6'.size), (by assumption)⟩)
  case rest =>
    obtain ⟨g, S', hS', rfl, hblk, hg, hbc⟩ := hcut
    have hz32' := hz32
    have b7 := Blk.new wc 35 zeros32
    have bg := hblk.out.alloc (.cells zeros32 35)
    have H7 := Lib.hid b7; have HG := Lib.hid bg
    clear b7 bg
    go_wp2_with (first | (with_reducible refine wpList_alloc_named rfl 35 rfl zeros32 hz32 ?_) | (refine wpList_load_row rfl 40 (.tmp 5) rfl g rfl 40 #[.int .u32 (S'.a : Int), .int .u32 (S'.b : Int), .int .u32 (S'.c : Int), .int .u32 (S'.d : Int), .int .u32 (S'.e : Int), .int .u32 (S'.f : Int), .int .u32 (S'.g : Int), .int .u32 (S'.h : Int)] (0, 0) _ HG.out Tryd.underlying40 rfl size8 ?_))
    have hbw : Below w.heap.size w wc := hb4.trans (hbc.mono hsz3)
    have hszc := hbw.size
    have hbw1 := hbw.alloc hszc (.cells zeros32 35)
    have b3c := (B3.out.below hbc B3.out.lt).alloc (.cells zeros32 35)
    have hr3 : w.heap.size + 1 < wc.heap.size := Nat.lt_of_lt_of_le B3.out.lt hbc.size
    obtain ⟨D, hD⟩ : ∃ D, D = sumBytes S' := ⟨_, rfl⟩
    have hDl : D.length = 32 := by rw [hD, sumBytes_length]
    have hDat : ∀ k j x, j < 4 → S'.list[k]? = some x → D[4 * k + j]? = some (UInt8.ofNat (x / 256 ^ (3 - j))) := fun k j x hj h => by rw [hD]; exact flat4_at _ k j x hj h
    obtain ⟨iw, hiw, _, hiw1, _⟩ := info_parts u32_info
    have h7 : Blk (wc.alloc (.cells zeros32 35)) wc.heap.size 35 (fill D 0) := by rw [fill_zero]; exact H7.out
    have M7 := Lib.hid h7; have MB := Lib.hid hbw1; have M3 := Lib.hid b3c; have MD := Lib.hid hD; have ML := Lib.hid hDl; have MA := Lib.hid hDat
    clear h7 hbw1 b3c hD hDl hDat H7 HG hz32' hblk hbc hbw
    go_loopw [31] (fun i wr => ∃ k : Nat, k ≤ 8 ∧ i = .int .i64 (k : Int) ∧ Hid (Blk wr wc.heap.size 35 (fill D (4 * k))) ∧ Hid (Blk wr (w.heap.size + 1) 35 zeros32) ∧ Below w.heap.size w wr)
      (fun i _ => 8 - (intOf i).toNat)
    case atStart => exact ⟨0, Nat.zero_le _, rfl, M7, M3, MB.out⟩
    case round =>
      obtain ⟨k, hk, rfl, hB7, hB3, hnx⟩ := hrel
      clear M7 M3 MB
      by_cases hlt : k < 8
      · obtain ⟨x, hx⟩ : ∃ x, S'.list[k]? = some x := ⟨_, List.getElem?_eq_getElem (by rw [St.list_length]; exact hlt)⟩
        have q1 := fun W => run_index_agg (P := Tryd.prog) W 40 39 8 (wv S'.list) .i64 .u32 k (u32v x) iw Tryd.underlying40 Tryd.underlying39 hiw hiw1 (wv_at hx) hlt
        rw [← vals_eq] at q1
        unfold St.vals u32v at q1
        go_wp2_with fail
        go_loopw [35] (fun i wr => ∃ j : Nat, j ≤ 4 ∧ i = .int .i64 (j : Int) ∧ Hid (Blk wr wc.heap.size 35 (fill D (4 * k + j))) ∧ Hid (Blk wr (w.heap.size + 1) 35 zeros32) ∧ Below w.heap.size w wr)
          (fun i _ => 4 - (intOf i).toNat)
        case atStart => exact ⟨0, Nat.zero_le _, rfl, hB7, hB3, hnx⟩
        case round =>
          obtain ⟨j, hj, rfl, hB7, hB3, hnx⟩ := hrel
          by_cases hlj : j < 4
          · have hDx := MA.out k j x hlj hx
            have hi32 : 4 * k + j < 32 := by omega
            have hcell := hB7.out.cellv (4 * k + j) (fill_at ML.out hi32)
            have hfz := hB7.out.frozen (4 * k + j)
            have hset := hB7.out.set_ (4 * k + j) (u8v (UInt8.ofNat (x / 256 ^ (3 - j))))
            rw [fill_set ML.out hi32 hDx, ← u8_shift x j hlj] at hset
            have T1 := Lib.hid hset
            clear hset hDx
            go_wp2_with fail
            go_roundw
            case rel => exact ⟨j + 1, by omega, by go_num, Lib.hid T1.out, Lib.hid (hB3.out.far (by show _ ≠ wc.heap.size; omega) _), hnx.setCell (by show _ ≤ wc.heap.size; omega) _⟩
            case measure => simp [intOf]; omega
          · have hj4 : j = 4 := by omega
            subst hj4
            go_wp2_with fail
            go_roundw
            case rel => exact ⟨k + 1, by omega, by go_num, hB7, hB3, hnx⟩
            case measure => simp [intOf]; omega
      · have hk8 : 4 * k = 32 := by omega
        rw [hk8] at hB7
        have hB7' := hB7.out
        rw [fill_full ML.out] at hB7'
        have hsD : (Tryd.prog.info? 35).map (·.size) = some (bv D).toArray.size := by rw [size32]; simp [ML.out]
        have hoD : zeros32.size = (bv D).toArray.size := by rw [zeros32_size]; simp [ML.out]
        have h1D : (bv D).toArray.all (·.oneCell') = true := by
          rw [Array.all_eq_true_iff_forall_mem]
          intro v hv
          exact bv_oneCell D v (by simpa using hv)
        have U1 := Lib.hid hB7'; have U2 := Lib.hid hsD; have U3 := Lib.hid hoD; have U4 := Lib.hid h1D
        clear hB7' hsD hoD h1D hk8
        go_wp2_with (first
          | (refine wpList_load_row rfl 35 (.tmp 7) rfl wc.heap.size rfl 35 (bv D).toArray (0, 0) _ U1.out Tryd.underlying35 rfl U2.out ?_)
          | (refine wpList_store_row rfl 35 (.tmp 2) (.tmp 51) rfl (w.heap.size + 1) (bv D).toArray (by simp [Act.eval, Act.put]) (by simp [Act.eval, Act.put]) 35 zeros32 hB3.out U2.out U3.out U4.out ?_))
        exact bodyPost_ret (results_row_tmp rfl _ _ (w.heap.size + 1) 35 (bv D).toArray (0, 0) _ rfl (hB3.out.row _) Tryd.underlying35 rfl U2.out) rfl ⟨by rw [← HP.out, ← hS'.out, ← MD.out]; rfl, below_setRow hnx (by omega) _⟩
end Go.Proofs.YtpoppfmlphkakaaDoor
