/-
  The looked-up code of functions of the program. Facts of the program alone, no condition.
-/
import Derived.Test.YtggmkfagcjdifaaDoorDgQa
namespace Go.Proofs.YtggmkfagcjdifaaDoor
set_option linter.unusedSimpArgs false
set_option linter.unusedVariables false
set_option linter.unnecessarySimpa false
set_option linter.unusedSectionVars false
open Go.Proofs.Tryd
open Go.Proofs.YtggmkfagcjdifaaDoor.Ai

abbrev q67_1 : List RP := ⟨(some 4), none, false, (.mv (.c .nils))⟩ :: []
abbrev q67_2 : List RP := ⟨(some 5), none, false, (.mv (.c .nils))⟩ :: []
abbrev q67_3 : List RP := ⟨(some 6), none, false, (.mv (.c (.int .i64 0)))⟩ :: []
abbrev q67_4 : List RP := ⟨(some 9), none, false, (.bin .lss (.t 8) (.c (.int .i64 64)))⟩ :: []
abbrev q67_5 : List RP := ⟨(some 8), none, false, (.mv (.t 6))⟩ :: q67_4
abbrev q67_6 : RQ := (.exit 0)
abbrev q67_7 : RQ := (.cond (.t 9) .skip q67_6)
abbrev q67_8 : List RP := ⟨(some 7), none, false, (.mv (.c (.int .u8 0)))⟩ :: []
abbrev q67_9 : List RP := ⟨(some 15), none, false, (.bin .lss (.t 12) (.t 14))⟩ :: []
abbrev q67_10 : List RP := ⟨(some 14), none, false, (.len (.t 13))⟩ :: q67_9
abbrev q67_11 : List RP := ⟨(some 13), none, false, (.mv (.t 0))⟩ :: q67_10
abbrev q67_12 : List RP := ⟨(some 12), none, false, (.mv (.t 6))⟩ :: q67_11
abbrev q67_13 : List RP := ⟨(some 7), none, false, (.mv (.t 19))⟩ :: []
abbrev q67_14 : List RP := ⟨(some 19), none, false, (.ld false 1 (.t 18))⟩ :: q67_13
abbrev q67_15 : List RP := ⟨(some 18), none, false, (.ias 1 (.t 16) (.t 17))⟩ :: q67_14
abbrev q67_16 : List RP := ⟨(some 17), none, false, (.mv (.t 6))⟩ :: q67_15
abbrev q67_17 : List RP := ⟨(some 16), none, false, (.mv (.t 0))⟩ :: q67_16
abbrev q67_18 : RQ := (.reg q67_17)
abbrev q67_19 : RQ := (.cond (.t 15) q67_18 .skip)
abbrev q67_20 : List RP := ⟨(some 5), none, false, (.mv (.t 25))⟩ :: []
abbrev q67_21 : List RP := ⟨(some 25), none, false, (.app 1 1 [(.int .u8 0)] (.t 20) (.t 24))⟩ :: q67_20
abbrev q67_22 : List RP := ⟨(some 24), none, true, (.bslice 1 1 [(.int .u8 0)] [(0, (.t 23))])⟩ :: q67_21
abbrev q67_23 : List RP := ⟨(some 23), none, false, (.bin .xor (.t 21) (.t 22))⟩ :: q67_22
abbrev q67_24 : List RP := ⟨(some 22), none, false, (.mv (.t 1))⟩ :: q67_23
abbrev q67_25 : List RP := ⟨(some 21), none, false, (.mv (.t 7))⟩ :: q67_24
abbrev q67_26 : List RP := ⟨(some 20), none, false, (.mv (.t 5))⟩ :: q67_25
abbrev q67_27 : RQ := (.reg q67_26)
abbrev q67_28 : RQ := (.seq (.seq (.reg q67_12) q67_19) q67_27)
abbrev q67_29 : List RP := ⟨(some 6), none, false, (.mv (.t 11))⟩ :: []
abbrev q67_30 : List RP := ⟨(some 11), none, false, (.bin .add (.t 10) (.c (.int .i64 1)))⟩ :: q67_29
abbrev q67_31 : List RP := ⟨(some 10), none, false, (.mv (.t 6))⟩ :: q67_30
abbrev q67_32 : RQ := (.reg q67_31)
abbrev q67_33 : RQ := (.seq (.block 1 (.seq (.reg q67_8) q67_28)) q67_32)
abbrev q67_34 : RQ := (.seq (.seq (.reg q67_5) q67_7) q67_33)
abbrev q67_35 : RQ := (.block 0 (.loop q67_34))
abbrev q67_36 : List RP := ⟨(some 4), none, false, (.mv (.t 26))⟩ :: []
abbrev q67_37 : List RP := ⟨(some 26), none, false, (.mv (.t 5))⟩ :: q67_36
abbrev q67_38 : RQ := (.seq (.reg q67_37) .ret)
abbrev q67_39 : RQ := (.seq (.seq (.reg q67_3) q67_35) q67_38)
abbrev q67_40 : RQ := (.seq (.reg q67_2) q67_39)
abbrev q67 : RQ := (.seq (.reg q67_1) q67_40)
theorem l67 : ∃ c, f67.body = some c ∧ liteC prog f67.ntmps c = some q67 := ⟨_, rfl, by kernel_rfl⟩
theorem e67 : prog.funcs[67]? = some f67 := by kernel_rfl
theorem r67 : mapO (resOf prog) f67.results.toList = some [(.t 4)] := by kernel_rfl
theorem n67 : f67.ntmps = 27 := rfl
def T67 : TE := .fn q67 [(.t 4)] 27
theorem te67 : TEOK prog 67 T67 := te_fn e67 l67 rfl r67 n67

def tabL : List (Nat × TE) := [(4, T4), (6, T6), (7, T7), (8, T8), (9, T9), (10, T10), (11, T11), (12, T12), (13, T13), (14, T14), (15, T15), (16, T16), (17, T17), (18, T18), (19, T19), (20, T20), (21, T21), (22, T22), (23, T23), (24, T24), (25, T25), (26, T26), (27, T27), (28, T28), (29, T29), (30, T30), (31, T31), (32, T32), (33, T33), (34, T34), (35, T35), (36, T36), (37, T37), (38, T38), (39, T39), (40, T40), (41, T41), (42, T42), (43, T43), (44, T44), (45, T45), (46, T46), (47, T47), (48, T48), (49, T49), (50, T50), (51, T51), (52, T52), (53, T53), (54, T54), (55, T55), (56, T56), (57, T57), (58, T58), (59, T59), (60, T60), (61, T61), (62, T62), (63, T63), (64, T64), (65, T65), (66, T66), (67, T67)]
theorem tabOK : TabOK prog (lkT tabL) := tabOK_of (List.forall_mem_cons.2 ⟨te4, List.forall_mem_cons.2 ⟨te6, List.forall_mem_cons.2 ⟨te7, List.forall_mem_cons.2 ⟨te8, List.forall_mem_cons.2 ⟨te9, List.forall_mem_cons.2 ⟨te10, List.forall_mem_cons.2 ⟨te11, List.forall_mem_cons.2 ⟨te12, List.forall_mem_cons.2 ⟨te13, List.forall_mem_cons.2 ⟨te14, List.forall_mem_cons.2 ⟨te15, List.forall_mem_cons.2 ⟨te16, List.forall_mem_cons.2 ⟨te17, List.forall_mem_cons.2 ⟨te18, List.forall_mem_cons.2 ⟨te19, List.forall_mem_cons.2 ⟨te20, List.forall_mem_cons.2 ⟨te21, List.forall_mem_cons.2 ⟨te22, List.forall_mem_cons.2 ⟨te23, List.forall_mem_cons.2 ⟨te24, List.forall_mem_cons.2 ⟨te25, List.forall_mem_cons.2 ⟨te26, List.forall_mem_cons.2 ⟨te27, List.forall_mem_cons.2 ⟨te28, List.forall_mem_cons.2 ⟨te29, List.forall_mem_cons.2 ⟨te30, List.forall_mem_cons.2 ⟨te31, List.forall_mem_cons.2 ⟨te32, List.forall_mem_cons.2 ⟨te33, List.forall_mem_cons.2 ⟨te34, List.forall_mem_cons.2 ⟨te35, List.forall_mem_cons.2 ⟨te36, List.forall_mem_cons.2 ⟨te37, List.forall_mem_cons.2 ⟨te38, List.forall_mem_cons.2 ⟨te39, List.forall_mem_cons.2 ⟨te40, List.forall_mem_cons.2 ⟨te41, List.forall_mem_cons.2 ⟨te42, List.forall_mem_cons.2 ⟨te43, List.forall_mem_cons.2 ⟨te44, List.forall_mem_cons.2 ⟨te45, List.forall_mem_cons.2 ⟨te46, List.forall_mem_cons.2 ⟨te47, List.forall_mem_cons.2 ⟨te48, List.forall_mem_cons.2 ⟨te49, List.forall_mem_cons.2 ⟨te50, List.forall_mem_cons.2 ⟨te51, List.forall_mem_cons.2 ⟨te52, List.forall_mem_cons.2 ⟨te53, List.forall_mem_cons.2 ⟨te54, List.forall_mem_cons.2 ⟨te55, List.forall_mem_cons.2 ⟨te56, List.forall_mem_cons.2 ⟨te57, List.forall_mem_cons.2 ⟨te58, List.forall_mem_cons.2 ⟨te59, List.forall_mem_cons.2 ⟨te60, List.forall_mem_cons.2 ⟨te61, List.forall_mem_cons.2 ⟨te62, List.forall_mem_cons.2 ⟨te63, List.forall_mem_cons.2 ⟨te64, List.forall_mem_cons.2 ⟨te65, List.forall_mem_cons.2 ⟨te66, List.forall_mem_cons.2 ⟨te67, (by intro x hx; cases hx)⟩⟩⟩⟩⟩⟩⟩⟩⟩⟩⟩⟩⟩⟩⟩⟩⟩⟩⟩⟩⟩⟩⟩⟩⟩⟩⟩⟩⟩⟩⟩⟩⟩⟩⟩⟩⟩⟩⟩⟩⟩⟩⟩⟩⟩⟩⟩⟩⟩⟩⟩⟩⟩⟩⟩⟩⟩⟩⟩⟩⟩⟩⟩)
theorem mixed : prog.follows .mixedOrders = true := by kernel_rfl
end Go.Proofs.YtggmkfagcjdifaaDoor
