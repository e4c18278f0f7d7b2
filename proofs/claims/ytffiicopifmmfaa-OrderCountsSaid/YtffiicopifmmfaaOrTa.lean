/-
  The looked-up code of functions of the program. Facts of the program alone, no condition.
-/
import Derived.Test.YtffiicopifmmfaaAiW
import Derived.Test.YtffiicopifmmfaaProg
import Derived.Tactics
namespace Go.Proofs.Ytffiicopifmmfaa
set_option linter.unusedSimpArgs false
set_option linter.unusedVariables false
set_option linter.unnecessarySimpa false
set_option linter.unusedSectionVars false
open Go.Proofs.Try
open Go.Proofs.Ytffiicopifmmfaa.Ai

abbrev q4_1 : List RP := ⟨(some 12), none, false, (.mv (.c (.bool false)))⟩ :: []
abbrev q4_2 : List RP := ⟨(some 10), none, false, (.box (.t 4))⟩ :: q4_1
abbrev q4_3 : List RP := ⟨(some 14), none, false, (.mv (.t 24))⟩ :: []
abbrev q4_4 : List RP := ⟨none, none, false, (.st 6 (.t 13) (.t 23))⟩ :: q4_3
abbrev q4_5 : List RP := ⟨(some 13), none, false, (.alloc [(.int .i64 0), (.int .i64 0), (.int .i64 0), (.int .u8 0), (.int .u64 0), (.int .u64 0)])⟩ :: q4_4
abbrev q4_6 : List RP := ⟨(some 24), none, false, (.ext (.t 17) 1)⟩ :: q4_5
abbrev q4_7 : List RP := ⟨(some 23), none, false, (.ext (.t 17) 0)⟩ :: q4_6
abbrev q4_8 : List RP := ⟨(some 17), none, false, (.mv (.t 22))⟩ :: q4_7
abbrev q4_9 : List RP := ⟨(some 22), none, false, (.cal 16 [(.t 18), (.t 19), (.t 20), (.t 21)])⟩ :: q4_8
abbrev q4_10 : List RP := ⟨(some 21), none, true, (.mv (.t 3))⟩ :: q4_9
abbrev q4_11 : List RP := ⟨(some 20), none, true, (.mv (.t 2))⟩ :: q4_10
abbrev q4_12 : List RP := ⟨(some 19), none, true, (.mv (.t 1))⟩ :: q4_11
abbrev q4_13 : List RP := ⟨(some 18), none, true, (.mv (.t 0))⟩ :: q4_12
abbrev q4_14 : List RP := ⟨(some 16), none, false, (.mv (.t 32))⟩ :: []
abbrev q4_15 : List RP := ⟨none, none, false, (.st 6 (.t 15) (.t 31))⟩ :: q4_14
abbrev q4_16 : List RP := ⟨(some 15), none, false, (.alloc [(.int .i64 0), (.int .i64 0), (.int .i64 0), (.int .u8 0), (.int .u64 0), (.int .u64 0)])⟩ :: q4_15
abbrev q4_17 : List RP := ⟨(some 32), none, false, (.ext (.t 25) 1)⟩ :: q4_16
abbrev q4_18 : List RP := ⟨(some 31), none, false, (.ext (.t 25) 0)⟩ :: q4_17
abbrev q4_19 : List RP := ⟨(some 25), none, false, (.mv (.t 30))⟩ :: q4_18
abbrev q4_20 : List RP := ⟨(some 30), none, false, (.cal 30 [(.t 26), (.t 27), (.t 28), (.t 29)])⟩ :: q4_19
abbrev q4_21 : List RP := ⟨(some 29), none, true, (.mv (.t 3))⟩ :: q4_20
abbrev q4_22 : List RP := ⟨(some 28), none, true, (.mv (.t 2))⟩ :: q4_21
abbrev q4_23 : List RP := ⟨(some 27), none, true, (.mv (.t 1))⟩ :: q4_22
abbrev q4_24 : List RP := ⟨(some 26), none, true, (.mv (.t 0))⟩ :: q4_23
abbrev q4_25 : List (Bool × RP) := (false, ⟨(some 47), none, false, (.pick (.t 41) (.c (.bool true)) (.t 46))⟩) :: []
abbrev q4_26 : List (Bool × RP) := (false, ⟨(some 46), (some (41, false)), false, (.bin .neq (.t 43) (.t 45))⟩) :: q4_25
abbrev q4_27 : List (Bool × RP) := (false, ⟨(some 45), (some (41, false)), false, (.cal 32 [(.t 44)])⟩) :: q4_26
abbrev q4_28 : List (Bool × RP) := (false, ⟨(some 44), (some (41, false)), true, (.ld true 6 (.t 10))⟩) :: q4_27
abbrev q4_29 : List (Bool × RP) := (false, ⟨(some 43), (some (41, false)), false, (.cal 31 [(.t 42)])⟩) :: q4_28
abbrev q4_30 : List (Bool × RP) := (false, ⟨(some 42), (some (41, false)), true, (.ld true 6 (.t 10))⟩) :: q4_29
abbrev q4_31 : List (Bool × RP) := (false, ⟨(some 41), none, false, (.mv (.t 40))⟩) :: q4_30
abbrev q4_32 : List (Bool × RP) := (false, ⟨(some 40), none, false, (.pick (.t 36) (.c (.bool true)) (.t 39))⟩) :: q4_31
abbrev q4_33 : List (Bool × RP) := (false, ⟨(some 39), (some (36, false)), false, (.bin .neq (.t 37) (.t 38))⟩) :: q4_32
abbrev q4_34 : List (Bool × RP) := (false, ⟨(some 38), (some (36, false)), false, (.mv (.t 16))⟩) :: q4_33
abbrev q4_35 : List (Bool × RP) := (false, ⟨(some 37), (some (36, false)), false, (.mv (.t 14))⟩) :: q4_34
abbrev q4_36 : List (Bool × RP) := (false, ⟨(some 36), none, false, (.mv (.t 35))⟩) :: q4_35
abbrev q4_37 : List (Bool × RP) := (false, ⟨(some 35), none, false, (.eqv true [(0, (.i .i64)), (1, (.i .i64)), (2, (.i .i64)), (3, (.i .u8)), (4, (.i .u64)), (5, (.i .u64))] (.t 33) (.t 34))⟩) :: q4_36
abbrev q4_38 : List (Bool × RP) := (false, ⟨(some 34), none, false, (.ld true 6 (.t 15))⟩) :: q4_37
abbrev q4_39 : List (Bool × RP) := (false, ⟨(some 33), none, false, (.ld true 6 (.t 13))⟩) :: q4_38
abbrev q4_40 : List RP := ⟨(some 12), none, false, (.mv (.c (.bool false)))⟩ :: []
abbrev q4_41 : RQ := (.seq (.reg q4_40) .ret)
abbrev q4_42 : RQ := (.cond (.t 47) q4_41 .skip)
abbrev q4_43 : List RP := ⟨(some 14), none, false, (.mv (.t 54))⟩ :: []
abbrev q4_44 : List RP := ⟨none, none, false, (.st 6 (.t 13) (.t 53))⟩ :: q4_43
abbrev q4_45 : List RP := ⟨(some 54), none, false, (.ext (.t 48) 1)⟩ :: q4_44
abbrev q4_46 : List RP := ⟨(some 53), none, false, (.ext (.t 48) 0)⟩ :: q4_45
abbrev q4_47 : List RP := ⟨(some 48), none, false, (.mv (.t 52))⟩ :: q4_46
abbrev q4_48 : List RP := ⟨(some 52), none, false, (.cal 18 [(.t 49), (.t 50), (.t 51)])⟩ :: q4_47
abbrev q4_49 : List RP := ⟨(some 51), none, true, (.mv (.t 3))⟩ :: q4_48
abbrev q4_50 : List RP := ⟨(some 50), none, true, (.mv (.t 5))⟩ :: q4_49
abbrev q4_51 : List RP := ⟨(some 49), none, true, (.ld true 6 (.t 10))⟩ :: q4_50
abbrev q4_52 : List RP := ⟨(some 16), none, false, (.mv (.t 61))⟩ :: []
abbrev q4_53 : List RP := ⟨none, none, false, (.st 6 (.t 15) (.t 60))⟩ :: q4_52
abbrev q4_54 : List RP := ⟨(some 61), none, false, (.ext (.t 55) 1)⟩ :: q4_53
abbrev q4_55 : List RP := ⟨(some 60), none, false, (.ext (.t 55) 0)⟩ :: q4_54
abbrev q4_56 : List RP := ⟨(some 55), none, false, (.mv (.t 59))⟩ :: q4_55
abbrev q4_57 : List RP := ⟨(some 59), none, false, (.cal 33 [(.t 56), (.t 57), (.t 58)])⟩ :: q4_56
abbrev q4_58 : List RP := ⟨(some 58), none, true, (.mv (.t 3))⟩ :: q4_57
abbrev q4_59 : List RP := ⟨(some 57), none, true, (.mv (.t 5))⟩ :: q4_58
abbrev q4_60 : List RP := ⟨(some 56), none, true, (.ld true 6 (.t 10))⟩ :: q4_59
abbrev q4_61 : List RP := ⟨(some 12), none, false, (.mv (.t 69))⟩ :: []
abbrev q4_62 : List RP := ⟨(some 69), none, false, (.pick (.t 65) (.t 68) (.c (.bool false)))⟩ :: q4_61
abbrev q4_63 : List RP := ⟨(some 68), (some (65, true)), false, (.bin .eql (.t 66) (.t 67))⟩ :: q4_62
abbrev q4_64 : List RP := ⟨(some 67), (some (65, true)), false, (.mv (.t 16))⟩ :: q4_63
abbrev q4_65 : List RP := ⟨(some 66), (some (65, true)), false, (.mv (.t 14))⟩ :: q4_64
abbrev q4_66 : List RP := ⟨(some 65), none, false, (.mv (.t 64))⟩ :: q4_65
abbrev q4_67 : List RP := ⟨(some 64), none, false, (.eqv false [(0, (.i .i64)), (1, (.i .i64)), (2, (.i .i64)), (3, (.i .u8)), (4, (.i .u64)), (5, (.i .u64))] (.t 62) (.t 63))⟩ :: q4_66
abbrev q4_68 : List RP := ⟨(some 63), none, false, (.ld true 6 (.t 15))⟩ :: q4_67
abbrev q4_69 : List RP := ⟨(some 62), none, false, (.ld true 6 (.t 13))⟩ :: q4_68
abbrev q4_70 : RQ := (.seq (.reg q4_69) .ret)
abbrev q4_71 : RQ := (.seq (.reg q4_60) q4_70)
abbrev q4_72 : RQ := (.seq (.reg q4_51) q4_71)
abbrev q4_73 : RQ := (.seq (.seq (.drw q4_39 []) q4_42) q4_72)
abbrev q4_74 : RQ := (.seq (.reg q4_24) q4_73)
abbrev q4_75 : RQ := (.seq (.reg q4_13) q4_74)
abbrev q4 : RQ := (.seq (.reg q4_2) q4_75)
theorem l4 : ∃ c, f4.body = some c ∧ liteC prog f4.ntmps c = some q4 := ⟨_, rfl, by kernel_rfl⟩
theorem e4 : prog.funcs[4]? = some f4 := by kernel_rfl
theorem r4 : mapO (resOf prog) f4.results.toList = some [(.t 12)] := by kernel_rfl
theorem n4 : f4.ntmps = 70 := rfl

abbrev q5_1 : List RP := ⟨(some 8), none, false, (.mv (.c (.bool false)))⟩ :: []
abbrev q5_2 : List RP := ⟨(some 4), none, false, (.box (.t 0))⟩ :: q5_1
abbrev q5_3 : List RP := ⟨(some 10), none, false, (.mv (.t 22))⟩ :: []
abbrev q5_4 : List RP := ⟨none, none, false, (.st 2 (.t 9) (.t 21))⟩ :: q5_3
abbrev q5_5 : List RP := ⟨(some 9), none, false, (.alloc [(.int .u64 0), (.int .i64 0)])⟩ :: q5_4
abbrev q5_6 : List RP := ⟨(some 22), none, false, (.ext (.t 15) 1)⟩ :: q5_5
abbrev q5_7 : List RP := ⟨(some 21), none, false, (.ext (.t 15) 0)⟩ :: q5_6
abbrev q5_8 : List RP := ⟨(some 15), none, false, (.mv (.t 20))⟩ :: q5_7
abbrev q5_9 : List RP := ⟨(some 20), none, false, (.cal 19 [(.t 16), (.t 17), (.t 18), (.t 19)])⟩ :: q5_8
abbrev q5_10 : List RP := ⟨(some 19), none, true, (.mv (.t 3))⟩ :: q5_9
abbrev q5_11 : List RP := ⟨(some 18), none, true, (.mv (.t 2))⟩ :: q5_10
abbrev q5_12 : List RP := ⟨(some 17), none, true, (.mv (.t 1))⟩ :: q5_11
abbrev q5_13 : List RP := ⟨(some 16), none, true, (.ld true 2 (.t 4))⟩ :: q5_12
abbrev q5_14 : List RP := ⟨(some 12), none, false, (.mv (.t 30))⟩ :: []
abbrev q5_15 : List RP := ⟨none, none, false, (.st 2 (.t 11) (.t 29))⟩ :: q5_14
abbrev q5_16 : List RP := ⟨(some 11), none, false, (.alloc [(.int .u64 0), (.int .i64 0)])⟩ :: q5_15
abbrev q5_17 : List RP := ⟨(some 30), none, false, (.ext (.t 23) 1)⟩ :: q5_16
abbrev q5_18 : List RP := ⟨(some 29), none, false, (.ext (.t 23) 0)⟩ :: q5_17
abbrev q5_19 : List RP := ⟨(some 23), none, false, (.mv (.t 28))⟩ :: q5_18
abbrev q5_20 : List RP := ⟨(some 28), none, false, (.cal 34 [(.t 24), (.t 25), (.t 26), (.t 27)])⟩ :: q5_19
abbrev q5_21 : List RP := ⟨(some 27), none, true, (.mv (.t 3))⟩ :: q5_20
abbrev q5_22 : List RP := ⟨(some 26), none, true, (.mv (.t 2))⟩ :: q5_21
abbrev q5_23 : List RP := ⟨(some 25), none, true, (.mv (.t 1))⟩ :: q5_22
abbrev q5_24 : List RP := ⟨(some 24), none, true, (.ld true 2 (.t 4))⟩ :: q5_23
abbrev q5_25 : List (Bool × RP) := (false, ⟨(some 49), none, false, (.pick (.t 39) (.c (.bool true)) (.t 48))⟩) :: []
abbrev q5_26 : List (Bool × RP) := (false, ⟨(some 48), (some (39, false)), false, (.bin .neq (.t 43) (.t 47))⟩) :: q5_25
abbrev q5_27 : List (Bool × RP) := (false, ⟨(some 47), (some (39, false)), false, (.cal 35 [(.t 44), (.t 45), (.t 46)])⟩) :: q5_26
abbrev q5_28 : List (Bool × RP) := (false, ⟨(some 46), (some (39, false)), true, (.mv (.t 2))⟩) :: q5_27
abbrev q5_29 : List (Bool × RP) := (false, ⟨(some 45), (some (39, false)), true, (.mv (.t 1))⟩) :: q5_28
abbrev q5_30 : List (Bool × RP) := (false, ⟨(some 44), (some (39, false)), true, (.ld true 2 (.t 4))⟩) :: q5_29
abbrev q5_31 : List (Bool × RP) := (false, ⟨(some 43), (some (39, false)), false, (.cal 21 [(.t 40), (.t 41), (.t 42)])⟩) :: q5_30
abbrev q5_32 : List (Bool × RP) := (false, ⟨(some 42), (some (39, false)), true, (.mv (.t 2))⟩) :: q5_31
abbrev q5_33 : List (Bool × RP) := (false, ⟨(some 41), (some (39, false)), true, (.mv (.t 1))⟩) :: q5_32
abbrev q5_34 : List (Bool × RP) := (false, ⟨(some 40), (some (39, false)), true, (.ld true 2 (.t 4))⟩) :: q5_33
abbrev q5_35 : List (Bool × RP) := (false, ⟨(some 39), none, false, (.mv (.t 38))⟩) :: q5_34
abbrev q5_36 : List (Bool × RP) := (false, ⟨(some 38), none, false, (.pick (.t 34) (.c (.bool true)) (.t 37))⟩) :: q5_35
abbrev q5_37 : List (Bool × RP) := (false, ⟨(some 37), (some (34, false)), false, (.bin .neq (.t 35) (.t 36))⟩) :: q5_36
abbrev q5_38 : List (Bool × RP) := (false, ⟨(some 36), (some (34, false)), false, (.mv (.t 12))⟩) :: q5_37
abbrev q5_39 : List (Bool × RP) := (false, ⟨(some 35), (some (34, false)), false, (.mv (.t 10))⟩) :: q5_38
abbrev q5_40 : List (Bool × RP) := (false, ⟨(some 34), none, false, (.mv (.t 33))⟩) :: q5_39
abbrev q5_41 : List (Bool × RP) := (false, ⟨(some 33), none, false, (.eqv true [(0, (.i .u64)), (1, (.i .i64))] (.t 31) (.t 32))⟩) :: q5_40
abbrev q5_42 : List (Bool × RP) := (false, ⟨(some 32), none, false, (.ld true 2 (.t 11))⟩) :: q5_41
abbrev q5_43 : List (Bool × RP) := (false, ⟨(some 31), none, false, (.ld true 2 (.t 9))⟩) :: q5_42
abbrev q5_44 : List RP := ⟨(some 8), none, false, (.mv (.c (.bool false)))⟩ :: []
abbrev q5_45 : RQ := (.seq (.reg q5_44) .ret)
abbrev q5_46 : RQ := (.cond (.t 49) q5_45 .skip)
abbrev q5_47 : List RP := ⟨(some 10), none, false, (.mv (.t 57))⟩ :: []
abbrev q5_48 : List RP := ⟨(some 13), none, false, (.mv (.t 56))⟩ :: q5_47
abbrev q5_49 : List RP := ⟨(some 57), none, false, (.ext (.t 50) 1)⟩ :: q5_48
abbrev q5_50 : List RP := ⟨(some 56), none, false, (.ext (.t 50) 0)⟩ :: q5_49
abbrev q5_51 : List RP := ⟨(some 50), none, false, (.mv (.t 55))⟩ :: q5_50
abbrev q5_52 : List RP := ⟨(some 55), none, false, (.cal 20 [(.t 51), (.t 52), (.t 53), (.t 54)])⟩ :: q5_51
abbrev q5_53 : List RP := ⟨(some 54), none, true, (.mv (.t 3))⟩ :: q5_52
abbrev q5_54 : List RP := ⟨(some 53), none, true, (.mv (.t 2))⟩ :: q5_53
abbrev q5_55 : List RP := ⟨(some 52), none, true, (.mv (.t 1))⟩ :: q5_54
abbrev q5_56 : List RP := ⟨(some 51), none, true, (.ld true 2 (.t 4))⟩ :: q5_55
abbrev q5_57 : List RP := ⟨(some 12), none, false, (.mv (.t 65))⟩ :: []
abbrev q5_58 : List RP := ⟨(some 14), none, false, (.mv (.t 64))⟩ :: q5_57
abbrev q5_59 : List RP := ⟨(some 65), none, false, (.ext (.t 58) 1)⟩ :: q5_58
abbrev q5_60 : List RP := ⟨(some 64), none, false, (.ext (.t 58) 0)⟩ :: q5_59
abbrev q5_61 : List RP := ⟨(some 58), none, false, (.mv (.t 63))⟩ :: q5_60
abbrev q5_62 : List RP := ⟨(some 63), none, false, (.cal 36 [(.t 59), (.t 60), (.t 61), (.t 62)])⟩ :: q5_61
abbrev q5_63 : List RP := ⟨(some 62), none, true, (.mv (.t 3))⟩ :: q5_62
abbrev q5_64 : List RP := ⟨(some 61), none, true, (.mv (.t 2))⟩ :: q5_63
abbrev q5_65 : List RP := ⟨(some 60), none, true, (.mv (.t 1))⟩ :: q5_64
abbrev q5_66 : List RP := ⟨(some 59), none, true, (.ld true 2 (.t 4))⟩ :: q5_65
abbrev q5_67 : List RP := ⟨(some 8), none, false, (.mv (.t 73))⟩ :: []
abbrev q5_68 : List RP := ⟨(some 73), none, false, (.pick (.t 69) (.t 72) (.c (.bool false)))⟩ :: q5_67
abbrev q5_69 : List RP := ⟨(some 72), (some (69, true)), false, (.bin .eql (.t 70) (.t 71))⟩ :: q5_68
abbrev q5_70 : List RP := ⟨(some 71), (some (69, true)), false, (.mv (.t 12))⟩ :: q5_69
abbrev q5_71 : List RP := ⟨(some 70), (some (69, true)), false, (.mv (.t 10))⟩ :: q5_70
abbrev q5_72 : List RP := ⟨(some 69), none, false, (.mv (.t 68))⟩ :: q5_71
abbrev q5_73 : List RP := ⟨(some 68), none, false, (.bin .eql (.t 66) (.t 67))⟩ :: q5_72
abbrev q5_74 : List RP := ⟨(some 67), none, false, (.mv (.t 14))⟩ :: q5_73
abbrev q5_75 : List RP := ⟨(some 66), none, false, (.mv (.t 13))⟩ :: q5_74
abbrev q5_76 : RQ := (.seq (.reg q5_75) .ret)
abbrev q5_77 : RQ := (.seq (.reg q5_66) q5_76)
abbrev q5_78 : RQ := (.seq (.reg q5_56) q5_77)
abbrev q5_79 : RQ := (.seq (.seq (.drw q5_43 []) q5_46) q5_78)
abbrev q5_80 : RQ := (.seq (.reg q5_24) q5_79)
abbrev q5_81 : RQ := (.seq (.reg q5_13) q5_80)
abbrev q5 : RQ := (.seq (.reg q5_2) q5_81)
theorem l5 : ∃ c, f5.body = some c ∧ liteC prog f5.ntmps c = some q5 := ⟨_, rfl, by kernel_rfl⟩
theorem e5 : prog.funcs[5]? = some f5 := by kernel_rfl
theorem r5 : mapO (resOf prog) f5.results.toList = some [(.t 8)] := by kernel_rfl
theorem n5 : f5.ntmps = 74 := rfl

abbrev q6_1 : List RP := ⟨(some 6), none, false, (.mv (.c (.bool false)))⟩ :: []
abbrev q6_2 : List RP := ⟨(some 5), none, false, (.box (.t 2))⟩ :: q6_1
abbrev q6_3 : List RP := ⟨(some 4), none, false, (.box (.t 1))⟩ :: q6_2
abbrev q6_4 : List RP := ⟨(some 3), none, false, (.box (.t 0))⟩ :: q6_3
abbrev q6_5 : List RP := ⟨none, none, false, (.st 4 (.t 7) (.t 12))⟩ :: []
abbrev q6_6 : List RP := ⟨(some 7), none, false, (.alloc [.nils, .nils, (.int .u64 0), (.int .i64 0)])⟩ :: q6_5
abbrev q6_7 : List RP := ⟨(some 12), none, false, (.cal 37 [(.t 11)])⟩ :: q6_6
abbrev q6_8 : List RP := ⟨(some 11), none, true, (.ld true 4 (.t 4))⟩ :: q6_7
abbrev q6_9 : List RP := ⟨none, none, false, (.st 18 (.t 8) (.t 16))⟩ :: []
abbrev q6_10 : List RP := ⟨(some 8), none, false, (.alloc [.nils, .nils, (.int .u64 0), (.int .i64 0), (.int .i64 0), (.int .i64 0), (.int .i64 0), (.int .i64 0), (.int .u8 0), (.int .u64 0), (.int .u64 0), (.int .i64 0), (.int .i64 0), (.int .i64 0), (.int .i64 0), (.int .i64 0), (.int .i64 0), (.int .i64 0)])⟩ :: q6_9
abbrev q6_11 : List RP := ⟨(some 16), none, false, (.cal 24 [(.t 13), (.t 14), (.t 15)])⟩ :: q6_10
abbrev q6_12 : List RP := ⟨(some 15), none, true, (.ld true 5 (.t 5))⟩ :: q6_11
abbrev q6_13 : List RP := ⟨(some 14), none, true, (.ld true 4 (.t 7))⟩ :: q6_12
abbrev q6_14 : List RP := ⟨(some 13), none, true, (.ld true 8 (.t 3))⟩ :: q6_13
abbrev q6_15 : List (Bool × RP) := (false, ⟨(some 32), none, false, (.pick (.t 24) (.c (.bool true)) (.t 31))⟩) :: []
abbrev q6_16 : List (Bool × RP) := (false, ⟨(some 31), (some (24, false)), false, (.not (.t 30))⟩) :: q6_15
abbrev q6_17 : List (Bool × RP) := (false, ⟨(some 30), (some (24, false)), false, (.cal 39 [(.t 25), (.t 29)])⟩) :: q6_16
abbrev q6_18 : List (Bool × RP) := (false, ⟨(some 29), (some (24, false)), true, (.cal 40 [(.t 26), (.t 27), (.t 28)])⟩) :: q6_17
abbrev q6_19 : List (Bool × RP) := (false, ⟨(some 28), (some (24, false)), true, (.ld true 5 (.t 5))⟩) :: q6_18
abbrev q6_20 : List (Bool × RP) := (false, ⟨(some 27), (some (24, false)), true, (.ld true 4 (.t 4))⟩) :: q6_19
abbrev q6_21 : List (Bool × RP) := (false, ⟨(some 26), (some (24, false)), true, (.ld true 8 (.t 3))⟩) :: q6_20
abbrev q6_22 : List (Bool × RP) := (false, ⟨(some 25), (some (24, false)), true, (.ld true 18 (.t 8))⟩) :: q6_21
abbrev q6_23 : List (Bool × RP) := (false, ⟨(some 24), none, false, (.mv (.t 23))⟩) :: q6_22
abbrev q6_24 : List (Bool × RP) := (false, ⟨(some 23), none, false, (.bin .neq (.t 19) (.t 22))⟩) :: q6_23
abbrev q6_25 : List (Bool × RP) := (false, ⟨(some 22), none, false, (.cal 38 [(.t 20), (.t 21)])⟩) :: q6_24
abbrev q6_26 : List (Bool × RP) := (false, ⟨(some 21), none, true, (.ld true 4 (.t 4))⟩) :: q6_25
abbrev q6_27 : List (Bool × RP) := (false, ⟨(some 20), none, true, (.ld true 8 (.t 3))⟩) :: q6_26
abbrev q6_28 : List (Bool × RP) := (false, ⟨(some 19), none, false, (.cal 29 [(.t 17), (.t 18)])⟩) :: q6_27
abbrev q6_29 : List (Bool × RP) := (false, ⟨(some 18), none, true, (.ld true 4 (.t 7))⟩) :: q6_28
abbrev q6_30 : List (Bool × RP) := (false, ⟨(some 17), none, true, (.ld true 8 (.t 3))⟩) :: q6_29
abbrev q6_31 : List RP := ⟨(some 6), none, false, (.mv (.c (.bool false)))⟩ :: []
abbrev q6_32 : RQ := (.seq (.reg q6_31) .ret)
abbrev q6_33 : RQ := (.cond (.t 32) q6_32 .skip)
abbrev q6_34 : List RP := ⟨(some 9), none, false, (.mv (.c (.int .i64 0)))⟩ :: []
abbrev q6_35 : List RP := ⟨(some 38), none, false, (.bin .lss (.t 33) (.t 37))⟩ :: []
abbrev q6_36 : List RP := ⟨(some 37), none, false, (.len (.t 36))⟩ :: q6_35
abbrev q6_37 : List RP := ⟨(some 36), none, false, (.ld false 1 (.t 35))⟩ :: q6_36
abbrev q6_38 : List RP := ⟨(some 35), none, false, (.fa 0 (.t 34))⟩ :: q6_37
abbrev q6_39 : List RP := ⟨(some 34), none, false, (.fa 0 (.t 8))⟩ :: q6_38
abbrev q6_40 : List RP := ⟨(some 33), none, false, (.mv (.t 9))⟩ :: q6_39
abbrev q6_41 : RQ := (.exit 0)
abbrev q6_42 : RQ := (.cond (.t 38) .skip q6_41)
abbrev q6_43 : List RP := ⟨none, none, false, (.st 1 (.t 50) (.t 48))⟩ :: []
abbrev q6_44 : List RP := ⟨(some 50), none, false, (.fa 0 (.t 49))⟩ :: q6_43
abbrev q6_45 : List RP := ⟨(some 49), none, false, (.ias 6 (.t 43) (.t 44))⟩ :: q6_44
abbrev q6_46 : List RP := ⟨(some 48), none, false, (.bin .xor (.t 47) (.c (.int .i64 1)))⟩ :: q6_45
abbrev q6_47 : List RP := ⟨(some 47), none, false, (.ld false 1 (.t 46))⟩ :: q6_46
abbrev q6_48 : List RP := ⟨(some 46), none, false, (.fa 0 (.t 45))⟩ :: q6_47
abbrev q6_49 : List RP := ⟨(some 45), none, false, (.ias 6 (.t 43) (.t 44))⟩ :: q6_48
abbrev q6_50 : List RP := ⟨(some 44), none, false, (.mv (.t 9))⟩ :: q6_49
abbrev q6_51 : List RP := ⟨(some 43), none, false, (.ld false 1 (.t 42))⟩ :: q6_50
abbrev q6_52 : List RP := ⟨(some 42), none, false, (.fa 0 (.t 41))⟩ :: q6_51
abbrev q6_53 : List RP := ⟨(some 41), none, false, (.fa 0 (.t 8))⟩ :: q6_52
abbrev q6_54 : List RP := ⟨(some 9), none, false, (.mv (.t 40))⟩ :: []
abbrev q6_55 : List RP := ⟨(some 40), none, false, (.bin .add (.t 39) (.c (.int .i64 1)))⟩ :: q6_54
abbrev q6_56 : List RP := ⟨(some 39), none, false, (.mv (.t 9))⟩ :: q6_55
abbrev q6_57 : RQ := (.reg q6_56)
abbrev q6_58 : RQ := (.seq (.block 1 (.reg q6_53)) q6_57)
abbrev q6_59 : RQ := (.seq (.seq (.reg q6_40) q6_42) q6_58)
abbrev q6_60 : RQ := (.block 0 (.loop q6_59))
abbrev q6_61 : List RP := ⟨(some 10), none, false, (.mv (.c (.int .i64 0)))⟩ :: []
abbrev q6_62 : List RP := ⟨(some 56), none, false, (.bin .lss (.t 51) (.t 55))⟩ :: []
abbrev q6_63 : List RP := ⟨(some 55), none, false, (.len (.t 54))⟩ :: q6_62
abbrev q6_64 : List RP := ⟨(some 54), none, false, (.ld false 1 (.t 53))⟩ :: q6_63
abbrev q6_65 : List RP := ⟨(some 53), none, false, (.fa 1 (.t 52))⟩ :: q6_64
abbrev q6_66 : List RP := ⟨(some 52), none, false, (.fa 0 (.t 8))⟩ :: q6_65
abbrev q6_67 : List RP := ⟨(some 51), none, false, (.mv (.t 10))⟩ :: q6_66
abbrev q6_68 : RQ := (.exit 2)
abbrev q6_69 : RQ := (.cond (.t 56) .skip q6_68)
abbrev q6_70 : List RP := ⟨none, none, false, (.st 1 (.t 66) (.t 65))⟩ :: []
abbrev q6_71 : List RP := ⟨(some 66), none, false, (.ias 1 (.t 61) (.t 62))⟩ :: q6_70
abbrev q6_72 : List RP := ⟨(some 65), none, false, (.bin .xor (.t 64) (.c (.int .i64 1)))⟩ :: q6_71
abbrev q6_73 : List RP := ⟨(some 64), none, false, (.ld false 1 (.t 63))⟩ :: q6_72
abbrev q6_74 : List RP := ⟨(some 63), none, false, (.ias 1 (.t 61) (.t 62))⟩ :: q6_73
abbrev q6_75 : List RP := ⟨(some 62), none, false, (.mv (.t 10))⟩ :: q6_74
abbrev q6_76 : List RP := ⟨(some 61), none, false, (.ld false 1 (.t 60))⟩ :: q6_75
abbrev q6_77 : List RP := ⟨(some 60), none, false, (.fa 1 (.t 59))⟩ :: q6_76
abbrev q6_78 : List RP := ⟨(some 59), none, false, (.fa 0 (.t 8))⟩ :: q6_77
abbrev q6_79 : List RP := ⟨(some 10), none, false, (.mv (.t 58))⟩ :: []
abbrev q6_80 : List RP := ⟨(some 58), none, false, (.bin .add (.t 57) (.c (.int .i64 1)))⟩ :: q6_79
abbrev q6_81 : List RP := ⟨(some 57), none, false, (.mv (.t 10))⟩ :: q6_80
abbrev q6_82 : RQ := (.reg q6_81)
abbrev q6_83 : RQ := (.seq (.block 3 (.reg q6_78)) q6_82)
abbrev q6_84 : RQ := (.seq (.seq (.reg q6_67) q6_69) q6_83)
abbrev q6_85 : RQ := (.block 2 (.loop q6_84))
abbrev q6_86 : List RP := ⟨(some 6), none, false, (.mv (.t 69))⟩ :: []
abbrev q6_87 : List RP := ⟨(some 69), none, false, (.cal 41 [(.t 67), (.t 68)])⟩ :: q6_86
abbrev q6_88 : List RP := ⟨(some 68), none, true, (.ld true 4 (.t 4))⟩ :: q6_87
abbrev q6_89 : List RP := ⟨(some 67), none, true, (.ld true 4 (.t 7))⟩ :: q6_88
abbrev q6_90 : RQ := (.seq (.reg q6_89) .ret)
abbrev q6_91 : RQ := (.seq (.seq (.reg q6_61) q6_85) q6_90)
abbrev q6_92 : RQ := (.seq (.seq (.reg q6_34) q6_60) q6_91)
abbrev q6_93 : RQ := (.seq (.seq (.drw q6_30 []) q6_33) q6_92)
abbrev q6_94 : RQ := (.seq (.reg q6_14) q6_93)
abbrev q6_95 : RQ := (.seq (.reg q6_8) q6_94)
abbrev q6 : RQ := (.seq (.reg q6_4) q6_95)
theorem l6 : ∃ c, f6.body = some c ∧ liteC prog f6.ntmps c = some q6 := ⟨_, rfl, by kernel_rfl⟩
theorem e6 : prog.funcs[6]? = some f6 := by kernel_rfl
theorem r6 : mapO (resOf prog) f6.results.toList = some [(.t 6)] := by kernel_rfl
theorem n6 : f6.ntmps = 70 := rfl

abbrev q7_1 : List RP := ⟨(some 4), none, false, (.mv (.c (.bool false)))⟩ :: []
abbrev q7_2 : List RP := ⟨(some 2), none, false, (.box (.t 0))⟩ :: q7_1
abbrev q7_3 : List RP := ⟨(some 12), none, false, (.bin .gtr (.t 11) (.c (.int .i64 300)))⟩ :: []
abbrev q7_4 : List RP := ⟨(some 11), none, false, (.len (.t 10))⟩ :: q7_3
abbrev q7_5 : List RP := ⟨(some 10), none, false, (.mv (.t 1))⟩ :: q7_4
abbrev q7_6 : List RP := ⟨(some 4), none, false, (.mv (.c (.bool true)))⟩ :: []
abbrev q7_7 : RQ := (.seq (.reg q7_6) .ret)
abbrev q7_8 : RQ := (.cond (.t 12) q7_7 .skip)
abbrev q7_9 : List RP := ⟨none, none, false, (.st 4 (.t 6) (.t 14))⟩ :: []
abbrev q7_10 : List RP := ⟨none, none, false, (.st 4 (.t 5) (.t 13))⟩ :: q7_9
abbrev q7_11 : List RP := ⟨(some 6), none, false, (.alloc [.nils, .nils, (.int .u64 0), (.int .i64 0)])⟩ :: q7_10
abbrev q7_12 : List RP := ⟨(some 5), none, false, (.alloc [.nils, .nils, (.int .u64 0), (.int .i64 0)])⟩ :: q7_11
abbrev q7_13 : List RP := ⟨(some 14), none, false, (.build [.nils, .nils, (.int .u64 0), (.int .i64 0)] [])⟩ :: q7_12
abbrev q7_14 : List RP := ⟨(some 13), none, false, (.build [.nils, .nils, (.int .u64 0), (.int .i64 0)] [])⟩ :: q7_13
abbrev q7_15 : List RP := ⟨(some 7), none, false, (.mv (.c (.int .i64 0)))⟩ :: []
abbrev q7_16 : List RP := ⟨(some 18), none, false, (.bin .lss (.t 15) (.t 17))⟩ :: []
abbrev q7_17 : List RP := ⟨(some 17), none, false, (.len (.t 16))⟩ :: q7_16
abbrev q7_18 : List RP := ⟨(some 16), none, false, (.mv (.t 1))⟩ :: q7_17
abbrev q7_19 : List RP := ⟨(some 15), none, false, (.mv (.t 7))⟩ :: q7_18
abbrev q7_20 : RQ := (.exit 0)
abbrev q7_21 : RQ := (.cond (.t 18) .skip q7_20)
abbrev q7_22 : List (Bool × RP) := (false, ⟨(some 8), none, false, (.alloc [.nils, .nils, (.int .u64 0), (.int .i64 0), (.int .i64 0), (.int .i64 0), (.int .i64 0), (.int .i64 0), (.int .u8 0), (.int .u64 0), (.int .u64 0), (.int .i64 0), (.int .i64 0), (.int .i64 0), (.int .i64 0), (.int .i64 0), (.int .i64 0), (.int .i64 0)])⟩) :: []
abbrev q7_23 : List (Bool × RP) := (false, ⟨(some 27), none, false, (.cal 24 [(.t 21), (.t 22), (.t 26)])⟩) :: q7_22
abbrev q7_24 : List (Bool × RP) := (false, ⟨(some 26), none, true, (.ld true 5 (.t 25))⟩) :: q7_23
abbrev q7_25 : List (Bool × RP) := (false, ⟨(some 25), none, false, (.ias 5 (.t 23) (.t 24))⟩) :: q7_24
abbrev q7_26 : List (Bool × RP) := (false, ⟨(some 24), none, false, (.mv (.t 7))⟩) :: q7_25
abbrev q7_27 : List (Bool × RP) := (false, ⟨(some 23), none, false, (.mv (.t 1))⟩) :: q7_26
abbrev q7_28 : List (Bool × RP) := (false, ⟨(some 22), none, true, (.ld true 4 (.t 5))⟩) :: q7_27
abbrev q7_29 : List (Bool × RP) := (false, ⟨(some 21), none, true, (.ld true 8 (.t 2))⟩) :: q7_28
abbrev q7_30 : List RP := ⟨none, none, false, (.st 18 (.t 8) (.t 27))⟩ :: []
abbrev q7_31 : List (Bool × RP) := (false, ⟨(some 9), none, false, (.alloc [.nils, .nils, (.int .u64 0), (.int .i64 0), (.int .i64 0), (.int .i64 0), (.int .i64 0), (.int .i64 0), (.int .u8 0), (.int .u64 0), (.int .u64 0), (.int .i64 0), (.int .i64 0), (.int .i64 0), (.int .i64 0), (.int .i64 0), (.int .i64 0), (.int .i64 0)])⟩) :: []
abbrev q7_32 : List (Bool × RP) := (false, ⟨(some 34), none, false, (.cal 40 [(.t 28), (.t 29), (.t 33)])⟩) :: q7_31
abbrev q7_33 : List (Bool × RP) := (false, ⟨(some 33), none, true, (.ld true 5 (.t 32))⟩) :: q7_32
abbrev q7_34 : List (Bool × RP) := (false, ⟨(some 32), none, false, (.ias 5 (.t 30) (.t 31))⟩) :: q7_33
abbrev q7_35 : List (Bool × RP) := (false, ⟨(some 31), none, false, (.mv (.t 7))⟩) :: q7_34
abbrev q7_36 : List (Bool × RP) := (false, ⟨(some 30), none, false, (.mv (.t 1))⟩) :: q7_35
abbrev q7_37 : List (Bool × RP) := (false, ⟨(some 29), none, true, (.ld true 4 (.t 6))⟩) :: q7_36
abbrev q7_38 : List (Bool × RP) := (false, ⟨(some 28), none, true, (.ld true 8 (.t 2))⟩) :: q7_37
abbrev q7_39 : List RP := ⟨none, none, false, (.st 18 (.t 9) (.t 34))⟩ :: []
abbrev q7_40 : List RP := ⟨(some 38), none, false, (.not (.t 37))⟩ :: []
abbrev q7_41 : List RP := ⟨(some 37), none, false, (.cal 39 [(.t 35), (.t 36)])⟩ :: q7_40
abbrev q7_42 : List RP := ⟨(some 36), none, true, (.ld true 18 (.t 9))⟩ :: q7_41
abbrev q7_43 : List RP := ⟨(some 35), none, true, (.ld true 18 (.t 8))⟩ :: q7_42
abbrev q7_44 : List RP := ⟨(some 4), none, false, (.mv (.c (.bool false)))⟩ :: []
abbrev q7_45 : RQ := (.seq (.reg q7_44) .ret)
abbrev q7_46 : RQ := (.cond (.t 38) q7_45 .skip)
abbrev q7_47 : List RP := ⟨(some 48), none, false, (.pick (.t 44) (.t 47) (.c (.bool false)))⟩ :: []
abbrev q7_48 : List RP := ⟨(some 47), (some (44, true)), false, (.bin .eql (.t 46) (.c (.int .i64 0)))⟩ :: q7_47
abbrev q7_49 : List RP := ⟨(some 46), (some (44, true)), false, (.ld false 1 (.t 45))⟩ :: q7_48
abbrev q7_50 : List RP := ⟨(some 45), (some (44, true)), false, (.fa 17 (.t 9))⟩ :: q7_49
abbrev q7_51 : List RP := ⟨(some 44), none, false, (.mv (.t 43))⟩ :: q7_50
abbrev q7_52 : List RP := ⟨(some 43), none, false, (.cal 26 [(.t 42)])⟩ :: q7_51
abbrev q7_53 : List RP := ⟨(some 42), none, true, (.ld true 5 (.t 41))⟩ :: q7_52
abbrev q7_54 : List RP := ⟨(some 41), none, false, (.ias 5 (.t 39) (.t 40))⟩ :: q7_53
abbrev q7_55 : List RP := ⟨(some 40), none, false, (.mv (.t 7))⟩ :: q7_54
abbrev q7_56 : List RP := ⟨(some 39), none, false, (.mv (.t 1))⟩ :: q7_55
abbrev q7_57 : List (Bool × RP) := (false, ⟨none, none, false, (.st 4 (.t 6) (.t 52))⟩) :: []
abbrev q7_58 : List (Bool × RP) := (false, ⟨none, none, false, (.st 4 (.t 5) (.t 50))⟩) :: q7_57
abbrev q7_59 : List (Bool × RP) := (true, ⟨(some 52), none, false, (.ld true 4 (.t 51))⟩) :: q7_58
abbrev q7_60 : List (Bool × RP) := (true, ⟨(some 51), none, false, (.fa 0 (.t 9))⟩) :: q7_59
abbrev q7_61 : List (Bool × RP) := (false, ⟨(some 50), none, false, (.ld true 4 (.t 49))⟩) :: q7_60
abbrev q7_62 : List (Bool × RP) := (false, ⟨(some 49), none, false, (.fa 0 (.t 8))⟩) :: q7_61
abbrev q7_63 : RQ := (.drw q7_62 [])
abbrev q7_64 : RQ := (.cond (.t 48) q7_63 .skip)
abbrev q7_65 : RQ := (.seq (.reg q7_56) q7_64)
abbrev q7_66 : RQ := (.seq (.seq (.reg q7_43) q7_46) q7_65)
abbrev q7_67 : RQ := (.seq (.drw q7_38 q7_39) q7_66)
abbrev q7_68 : List RP := ⟨(some 7), none, false, (.mv (.t 20))⟩ :: []
abbrev q7_69 : List RP := ⟨(some 20), none, false, (.bin .add (.t 19) (.c (.int .i64 1)))⟩ :: q7_68
abbrev q7_70 : List RP := ⟨(some 19), none, false, (.mv (.t 7))⟩ :: q7_69
abbrev q7_71 : RQ := (.reg q7_70)
abbrev q7_72 : RQ := (.seq (.block 1 (.seq (.drw q7_29 q7_30) q7_67)) q7_71)
abbrev q7_73 : RQ := (.seq (.seq (.reg q7_19) q7_21) q7_72)
abbrev q7_74 : RQ := (.block 0 (.loop q7_73))
abbrev q7_75 : List (Bool × RP) := (false, ⟨(some 4), none, false, (.mv (.t 59))⟩) :: []
abbrev q7_76 : List (Bool × RP) := (false, ⟨(some 59), none, false, (.bin .eql (.t 55) (.t 58))⟩) :: q7_75
abbrev q7_77 : List (Bool × RP) := (false, ⟨(some 58), none, false, (.cal 38 [(.t 56), (.t 57)])⟩) :: q7_76
abbrev q7_78 : List (Bool × RP) := (false, ⟨(some 57), none, true, (.ld true 4 (.t 6))⟩) :: q7_77
abbrev q7_79 : List (Bool × RP) := (false, ⟨(some 56), none, true, (.ld true 8 (.t 2))⟩) :: q7_78
abbrev q7_80 : List (Bool × RP) := (false, ⟨(some 55), none, false, (.cal 29 [(.t 53), (.t 54)])⟩) :: q7_79
abbrev q7_81 : List (Bool × RP) := (false, ⟨(some 54), none, true, (.ld true 4 (.t 5))⟩) :: q7_80
abbrev q7_82 : List (Bool × RP) := (false, ⟨(some 53), none, true, (.ld true 8 (.t 2))⟩) :: q7_81
abbrev q7_83 : RQ := (.seq (.drw q7_82 []) .ret)
abbrev q7_84 : RQ := (.seq (.seq (.reg q7_15) q7_74) q7_83)
abbrev q7_85 : RQ := (.seq (.reg q7_14) q7_84)
abbrev q7_86 : RQ := (.seq (.seq (.reg q7_5) q7_8) q7_85)
abbrev q7 : RQ := (.seq (.reg q7_2) q7_86)
theorem l7 : ∃ c, f7.body = some c ∧ liteC prog f7.ntmps c = some q7 := ⟨_, rfl, by kernel_rfl⟩
theorem e7 : prog.funcs[7]? = some f7 := by kernel_rfl
theorem r7 : mapO (resOf prog) f7.results.toList = some [(.t 4)] := by kernel_rfl
theorem n7 : f7.ntmps = 60 := rfl

abbrev q16_1 : List RP := ⟨(some 9), none, false, (.mv (.c (.int .i64 0)))⟩ :: []
abbrev q16_2 : List RP := ⟨(some 8), none, false, (.alloc [(.int .i64 0), (.int .i64 0), (.int .i64 0), (.int .u8 0), (.int .u64 0), (.int .u64 0)])⟩ :: q16_1
abbrev q16_3 : List RP := ⟨none, none, false, (.st 6 (.t 10) (.t 15))⟩ :: []
abbrev q16_4 : List RP := ⟨(some 10), none, false, (.alloc [(.int .i64 0), (.int .i64 0), (.int .i64 0), (.int .u8 0), (.int .u64 0), (.int .u64 0)])⟩ :: q16_3
abbrev q16_5 : List RP := ⟨(some 15), none, false, (.build [(.int .i64 0), (.int .i64 0), (.int .i64 0), (.int .u8 0), (.int .u64 0), (.int .u64 0)] [(0, 1, (.t 11)), (1, 1, (.t 12)), (2, 1, (.t 13)), (3, 1, (.c (.int .u8 1))), (4, 1, (.t 14))])⟩ :: q16_4
abbrev q16_6 : List RP := ⟨(some 14), none, false, (.mv (.t 3))⟩ :: q16_5
abbrev q16_7 : List RP := ⟨(some 13), none, false, (.mv (.t 2))⟩ :: q16_6
abbrev q16_8 : List RP := ⟨(some 12), none, false, (.mv (.t 1))⟩ :: q16_7
abbrev q16_9 : List RP := ⟨(some 11), none, false, (.mv (.t 0))⟩ :: q16_8
abbrev q16_10 : List RP := ⟨(some 18), none, false, (.bin .neq (.t 17) (.c (.int .i64 0)))⟩ :: []
abbrev q16_11 : List RP := ⟨(some 17), none, false, (.cal 31 [(.t 16)])⟩ :: q16_10
abbrev q16_12 : List RP := ⟨(some 16), none, true, (.ld true 6 (.t 10))⟩ :: q16_11
abbrev q16_13 : List RP := ⟨(some 9), none, false, (.mv (.c (.int .i64 2)))⟩ :: []
abbrev q16_14 : List RP := ⟨none, none, false, (.st 6 (.t 8) (.t 19))⟩ :: q16_13
abbrev q16_15 : List RP := ⟨(some 19), none, false, (.build [(.int .i64 0), (.int .i64 0), (.int .i64 0), (.int .u8 0), (.int .u64 0), (.int .u64 0)] [])⟩ :: q16_14
abbrev q16_16 : RQ := (.seq (.reg q16_15) .ret)
abbrev q16_17 : RQ := (.cond (.t 18) q16_16 .skip)
abbrev q16_18 : List RP := ⟨(some 9), none, false, (.mv (.c (.int .i64 0)))⟩ :: []
abbrev q16_19 : List RP := ⟨none, none, false, (.st 6 (.t 8) (.t 20))⟩ :: q16_18
abbrev q16_20 : List RP := ⟨(some 20), none, false, (.ld true 6 (.t 10))⟩ :: q16_19
abbrev q16_21 : RQ := (.seq (.reg q16_20) .ret)
abbrev q16_22 : RQ := (.seq (.seq (.reg q16_12) q16_17) q16_21)
abbrev q16_23 : RQ := (.seq (.reg q16_9) q16_22)
abbrev q16 : RQ := (.seq (.reg q16_2) q16_23)
theorem l16 : ∃ c, f16.body = some c ∧ liteC prog f16.ntmps c = some q16 := ⟨_, rfl, by kernel_rfl⟩
theorem e16 : prog.funcs[16]? = some f16 := by kernel_rfl
theorem r16 : mapO (resOf prog) f16.results.toList = some [(.c 8 true 6), (.t 9)] := by kernel_rfl
theorem n16 : f16.ntmps = 21 := rfl

abbrev q18_1 : List RP := ⟨(some 7), none, false, (.mv (.c (.int .i64 0)))⟩ :: []
abbrev q18_2 : List RP := ⟨(some 6), none, false, (.alloc [(.int .i64 0), (.int .i64 0), (.int .i64 0), (.int .u8 0), (.int .u64 0), (.int .u64 0)])⟩ :: q18_1
abbrev q18_3 : List RP := ⟨(some 3), none, false, (.box (.t 0))⟩ :: q18_2
abbrev q18_4 : List RP := ⟨(some 8), none, false, (.mv (.t 10))⟩ :: []
abbrev q18_5 : List RP := ⟨(some 10), none, false, (.cal 31 [(.t 9)])⟩ :: q18_4
abbrev q18_6 : List RP := ⟨(some 9), none, true, (.ld true 6 (.t 3))⟩ :: q18_5
abbrev q18_7 : List RP := ⟨(some 12), none, false, (.bin .neq (.t 11) (.c (.int .i64 0)))⟩ :: []
abbrev q18_8 : List RP := ⟨(some 11), none, false, (.mv (.t 8))⟩ :: q18_7
abbrev q18_9 : List RP := ⟨(some 7), none, false, (.mv (.t 14))⟩ :: []
abbrev q18_10 : List RP := ⟨none, none, false, (.st 6 (.t 6) (.t 13))⟩ :: q18_9
abbrev q18_11 : List RP := ⟨(some 14), none, false, (.mv (.t 8))⟩ :: q18_10
abbrev q18_12 : List RP := ⟨(some 13), none, false, (.build [(.int .i64 0), (.int .i64 0), (.int .i64 0), (.int .u8 0), (.int .u64 0), (.int .u64 0)] [])⟩ :: q18_11
abbrev q18_13 : RQ := (.seq (.reg q18_12) .ret)
abbrev q18_14 : RQ := (.cond (.t 12) q18_13 .skip)
abbrev q18_15 : RQ := (.seq (.reg q18_8) q18_14)
abbrev q18_16 : List RP := ⟨(some 29), none, false, (.pick (.t 22) (.c (.bool true)) (.t 28))⟩ :: []
abbrev q18_17 : List RP := ⟨(some 28), (some (22, false)), false, (.pick (.t 25) (.t 27) (.c (.bool false)))⟩ :: q18_16
abbrev q18_18 : List RP := ⟨(some 27), (some (25, true)), false, (.bin .eql (.t 26) (.c (.int .u64 0)))⟩ :: q18_17
abbrev q18_19 : List RP := ⟨(some 26), (some (25, true)), false, (.mv (.t 2))⟩ :: q18_18
abbrev q18_20 : List RP := ⟨(some 25), (some (22, false)), false, (.mv (.t 24))⟩ :: q18_19
abbrev q18_21 : List RP := ⟨(some 24), (some (22, false)), false, (.bin .eql (.t 23) (.c (.int .u8 4)))⟩ :: q18_20
abbrev q18_22 : List RP := ⟨(some 23), (some (22, false)), false, (.mv (.t 1))⟩ :: q18_21
abbrev q18_23 : List RP := ⟨(some 22), none, false, (.mv (.t 21))⟩ :: q18_22
abbrev q18_24 : List RP := ⟨(some 21), none, false, (.pick (.t 18) (.c (.bool true)) (.t 20))⟩ :: q18_23
abbrev q18_25 : List RP := ⟨(some 20), (some (18, false)), false, (.bin .gtr (.t 19) (.c (.int .u64 4611686018427387904)))⟩ :: q18_24
abbrev q18_26 : List RP := ⟨(some 19), (some (18, false)), false, (.mv (.t 2))⟩ :: q18_25
abbrev q18_27 : List RP := ⟨(some 18), none, false, (.mv (.t 17))⟩ :: q18_26
abbrev q18_28 : List RP := ⟨(some 17), none, false, (.not (.t 16))⟩ :: q18_27
abbrev q18_29 : List RP := ⟨(some 16), none, false, (.cal 47 [(.t 15)])⟩ :: q18_28
abbrev q18_30 : List RP := ⟨(some 15), none, true, (.mv (.t 1))⟩ :: q18_29
abbrev q18_31 : List RP := ⟨(some 7), none, false, (.mv (.c (.int .i64 2)))⟩ :: []
abbrev q18_32 : List RP := ⟨none, none, false, (.st 6 (.t 6) (.t 30))⟩ :: q18_31
abbrev q18_33 : List RP := ⟨(some 30), none, false, (.build [(.int .i64 0), (.int .i64 0), (.int .i64 0), (.int .u8 0), (.int .u64 0), (.int .u64 0)] [])⟩ :: q18_32
abbrev q18_34 : RQ := (.seq (.reg q18_33) .ret)
abbrev q18_35 : RQ := (.cond (.t 29) q18_34 .skip)
abbrev q18_36 : List RP := ⟨(some 35), none, false, (.not (.t 34))⟩ :: []
abbrev q18_37 : List RP := ⟨(some 34), none, false, (.cal 48 [(.t 32), (.t 33)])⟩ :: q18_36
abbrev q18_38 : List RP := ⟨(some 33), none, true, (.mv (.t 1))⟩ :: q18_37
abbrev q18_39 : List RP := ⟨(some 32), none, true, (.ld false 1 (.t 31))⟩ :: q18_38
abbrev q18_40 : List RP := ⟨(some 31), none, false, (.fa 3 (.t 3))⟩ :: q18_39
abbrev q18_41 : List RP := ⟨(some 7), none, false, (.mv (.c (.int .i64 150)))⟩ :: []
abbrev q18_42 : List RP := ⟨none, none, false, (.st 6 (.t 6) (.t 36))⟩ :: q18_41
abbrev q18_43 : List RP := ⟨(some 36), none, false, (.build [(.int .i64 0), (.int .i64 0), (.int .i64 0), (.int .u8 0), (.int .u64 0), (.int .u64 0)] [])⟩ :: q18_42
abbrev q18_44 : RQ := (.seq (.reg q18_43) .ret)
abbrev q18_45 : RQ := (.cond (.t 35) q18_44 .skip)
abbrev q18_46 : List RP := ⟨none, none, false, (.st 1 (.t 38) (.t 37))⟩ :: []
abbrev q18_47 : List RP := ⟨(some 38), none, false, (.fa 3 (.t 3))⟩ :: q18_46
abbrev q18_48 : List RP := ⟨(some 37), none, false, (.mv (.t 1))⟩ :: q18_47
abbrev q18_49 : List RP := ⟨(some 40), none, false, (.bin .eql (.t 39) (.c (.int .u8 4)))⟩ :: []
abbrev q18_50 : List RP := ⟨(some 39), none, false, (.mv (.t 1))⟩ :: q18_49
abbrev q18_51 : List RP := ⟨none, none, false, (.st 1 (.t 42) (.t 41))⟩ :: []
abbrev q18_52 : List RP := ⟨(some 42), none, false, (.fa 5 (.t 3))⟩ :: q18_51
abbrev q18_53 : List RP := ⟨(some 41), none, false, (.mv (.t 2))⟩ :: q18_52
abbrev q18_54 : RQ := (.reg q18_53)
abbrev q18_55 : RQ := (.cond (.t 40) q18_54 .skip)
abbrev q18_56 : List RP := ⟨(some 7), none, false, (.mv (.c (.int .i64 0)))⟩ :: []
abbrev q18_57 : List RP := ⟨none, none, false, (.st 6 (.t 6) (.t 43))⟩ :: q18_56
abbrev q18_58 : List RP := ⟨(some 43), none, false, (.ld true 6 (.t 3))⟩ :: q18_57
abbrev q18_59 : RQ := (.seq (.reg q18_58) .ret)
abbrev q18_60 : RQ := (.seq (.seq (.reg q18_50) q18_55) q18_59)
abbrev q18_61 : RQ := (.seq (.reg q18_48) q18_60)
abbrev q18_62 : RQ := (.seq (.seq (.reg q18_40) q18_45) q18_61)
abbrev q18_63 : RQ := (.seq (.seq (.reg q18_30) q18_35) q18_62)
abbrev q18_64 : RQ := (.seq (.seq (.reg q18_6) q18_15) q18_63)
abbrev q18 : RQ := (.seq (.reg q18_3) q18_64)
theorem l18 : ∃ c, f18.body = some c ∧ liteC prog f18.ntmps c = some q18 := ⟨_, rfl, by kernel_rfl⟩
theorem e18 : prog.funcs[18]? = some f18 := by kernel_rfl
theorem r18 : mapO (resOf prog) f18.results.toList = some [(.c 6 true 6), (.t 7)] := by kernel_rfl
theorem n18 : f18.ntmps = 44 := rfl

abbrev q19_1 : List RP := ⟨(some 9), none, false, (.mv (.c (.int .i64 0)))⟩ :: []
abbrev q19_2 : List RP := ⟨(some 8), none, false, (.alloc [(.int .u64 0), (.int .i64 0)])⟩ :: q19_1
abbrev q19_3 : List RP := ⟨(some 4), none, false, (.box (.t 0))⟩ :: q19_2
abbrev q19_4 : List RP := ⟨(some 11), none, false, (.mv (.t 19))⟩ :: []
abbrev q19_5 : List RP := ⟨(some 10), none, false, (.mv (.t 18))⟩ :: q19_4
abbrev q19_6 : List RP := ⟨(some 19), none, false, (.ext (.t 12) 1)⟩ :: q19_5
abbrev q19_7 : List RP := ⟨(some 18), none, false, (.ext (.t 12) 0)⟩ :: q19_6
abbrev q19_8 : List RP := ⟨(some 12), none, false, (.mv (.t 17))⟩ :: q19_7
abbrev q19_9 : List RP := ⟨(some 17), none, false, (.cal 20 [(.t 13), (.t 14), (.t 15), (.t 16)])⟩ :: q19_8
abbrev q19_10 : List RP := ⟨(some 16), none, true, (.mv (.t 3))⟩ :: q19_9
abbrev q19_11 : List RP := ⟨(some 15), none, true, (.mv (.t 2))⟩ :: q19_10
abbrev q19_12 : List RP := ⟨(some 14), none, true, (.mv (.t 1))⟩ :: q19_11
abbrev q19_13 : List RP := ⟨(some 13), none, true, (.ld true 2 (.t 4))⟩ :: q19_12
abbrev q19_14 : List RP := ⟨(some 21), none, false, (.bin .neq (.t 20) (.c (.int .i64 0)))⟩ :: []
abbrev q19_15 : List RP := ⟨(some 20), none, false, (.mv (.t 11))⟩ :: q19_14
abbrev q19_16 : List RP := ⟨(some 9), none, false, (.mv (.t 23))⟩ :: []
abbrev q19_17 : List RP := ⟨none, none, false, (.st 2 (.t 8) (.t 22))⟩ :: q19_16
abbrev q19_18 : List RP := ⟨(some 23), none, false, (.mv (.t 11))⟩ :: q19_17
abbrev q19_19 : List RP := ⟨(some 22), none, false, (.build [(.int .u64 0), (.int .i64 0)] [])⟩ :: q19_18
abbrev q19_20 : RQ := (.seq (.reg q19_19) .ret)
abbrev q19_21 : RQ := (.cond (.t 21) q19_20 .skip)
abbrev q19_22 : List RP := ⟨(some 25), none, false, (.bin .eql (.t 24) (.c (.int .i64 0)))⟩ :: []
abbrev q19_23 : List RP := ⟨(some 24), none, false, (.mv (.t 10))⟩ :: q19_22
abbrev q19_24 : List RP := ⟨(some 9), none, false, (.mv (.c (.int .i64 160)))⟩ :: []
abbrev q19_25 : List RP := ⟨none, none, false, (.st 2 (.t 8) (.t 26))⟩ :: q19_24
abbrev q19_26 : List RP := ⟨(some 26), none, false, (.build [(.int .u64 0), (.int .i64 0)] [])⟩ :: q19_25
abbrev q19_27 : RQ := (.seq (.reg q19_26) .ret)
abbrev q19_28 : RQ := (.cond (.t 25) q19_27 .skip)
abbrev q19_29 : List RP := ⟨(some 9), none, false, (.mv (.c (.int .i64 0)))⟩ :: []
abbrev q19_30 : List RP := ⟨none, none, false, (.st 2 (.t 8) (.t 34))⟩ :: q19_29
abbrev q19_31 : List RP := ⟨(some 34), none, false, (.build [(.int .u64 0), (.int .i64 0)] [(0, 1, (.t 29)), (1, 1, (.t 33))])⟩ :: q19_30
abbrev q19_32 : List RP := ⟨(some 33), none, false, (.bin .add (.t 32) (.c (.int .i64 1)))⟩ :: q19_31
abbrev q19_33 : List RP := ⟨(some 32), none, false, (.bin .sub (.t 30) (.t 31))⟩ :: q19_32
abbrev q19_34 : List RP := ⟨(some 31), none, false, (.mv (.t 10))⟩ :: q19_33
abbrev q19_35 : List RP := ⟨(some 30), none, false, (.mv (.t 2))⟩ :: q19_34
abbrev q19_36 : List RP := ⟨(some 29), none, false, (.cal 49 [(.t 27), (.t 28)])⟩ :: q19_35
abbrev q19_37 : List RP := ⟨(some 28), none, true, (.mv (.t 1))⟩ :: q19_36
abbrev q19_38 : List RP := ⟨(some 27), none, true, (.mv (.t 3))⟩ :: q19_37
abbrev q19_39 : RQ := (.seq (.reg q19_38) .ret)
abbrev q19_40 : RQ := (.seq (.seq (.reg q19_23) q19_28) q19_39)
abbrev q19_41 : RQ := (.seq (.seq (.reg q19_15) q19_21) q19_40)
abbrev q19_42 : RQ := (.seq (.reg q19_13) q19_41)
abbrev q19 : RQ := (.seq (.reg q19_3) q19_42)
theorem l19 : ∃ c, f19.body = some c ∧ liteC prog f19.ntmps c = some q19 := ⟨_, rfl, by kernel_rfl⟩
theorem e19 : prog.funcs[19]? = some f19 := by kernel_rfl
theorem r19 : mapO (resOf prog) f19.results.toList = some [(.c 8 true 2), (.t 9)] := by kernel_rfl
theorem n19 : f19.ntmps = 35 := rfl

abbrev q20_1 : List RP := ⟨(some 9), none, false, (.mv (.c (.int .i64 0)))⟩ :: []
abbrev q20_2 : List RP := ⟨(some 8), none, false, (.mv (.c (.int .i64 0)))⟩ :: q20_1
abbrev q20_3 : List RP := ⟨(some 4), none, false, (.box (.t 0))⟩ :: q20_2
abbrev q20_4 : List RP := ⟨(some 10), none, false, (.mv (.t 14))⟩ :: []
abbrev q20_5 : List RP := ⟨(some 14), none, false, (.cal 21 [(.t 11), (.t 12), (.t 13)])⟩ :: q20_4
abbrev q20_6 : List RP := ⟨(some 13), none, true, (.mv (.t 2))⟩ :: q20_5
abbrev q20_7 : List RP := ⟨(some 12), none, true, (.mv (.t 1))⟩ :: q20_6
abbrev q20_8 : List RP := ⟨(some 11), none, true, (.ld true 2 (.t 4))⟩ :: q20_7
abbrev q20_9 : List RP := ⟨(some 16), none, false, (.bin .neq (.t 15) (.c (.int .i64 0)))⟩ :: []
abbrev q20_10 : List RP := ⟨(some 15), none, false, (.mv (.t 10))⟩ :: q20_9
abbrev q20_11 : List RP := ⟨(some 9), none, false, (.mv (.t 17))⟩ :: []
abbrev q20_12 : List RP := ⟨(some 8), none, false, (.mv (.c (.int .i64 0)))⟩ :: q20_11
abbrev q20_13 : List RP := ⟨(some 17), none, false, (.mv (.t 10))⟩ :: q20_12
abbrev q20_14 : RQ := (.seq (.reg q20_13) .ret)
abbrev q20_15 : RQ := (.cond (.t 16) q20_14 .skip)
abbrev q20_16 : RQ := (.seq (.reg q20_10) q20_15)
abbrev q20_17 : List RP := ⟨(some 19), none, false, (.bin .gtr (.t 18) (.c (.int .u64 4611686018427387904)))⟩ :: []
abbrev q20_18 : List RP := ⟨(some 18), none, false, (.mv (.t 3))⟩ :: q20_17
abbrev q20_19 : List RP := ⟨(some 9), none, false, (.mv (.c (.int .i64 2)))⟩ :: []
abbrev q20_20 : List RP := ⟨(some 8), none, false, (.mv (.c (.int .i64 0)))⟩ :: q20_19
abbrev q20_21 : RQ := (.seq (.reg q20_20) .ret)
abbrev q20_22 : RQ := (.cond (.t 19) q20_21 .skip)
abbrev q20_23 : List (Bool × RP) := (false, ⟨(some 25), none, false, (.bin .neq (.t 22) (.t 24))⟩) :: []
abbrev q20_24 : List (Bool × RP) := (false, ⟨(some 24), none, false, (.ld false 1 (.t 23))⟩) :: q20_23
abbrev q20_25 : List (Bool × RP) := (false, ⟨(some 23), none, false, (.fa 0 (.t 4))⟩) :: q20_24
abbrev q20_26 : List (Bool × RP) := (false, ⟨(some 22), none, false, (.cal 49 [(.t 20), (.t 21)])⟩) :: q20_25
abbrev q20_27 : List (Bool × RP) := (false, ⟨(some 21), none, true, (.mv (.t 1))⟩) :: q20_26
abbrev q20_28 : List (Bool × RP) := (false, ⟨(some 20), none, true, (.mv (.t 3))⟩) :: q20_27
abbrev q20_29 : List RP := ⟨(some 9), none, false, (.mv (.c (.int .i64 0)))⟩ :: []
abbrev q20_30 : List RP := ⟨(some 8), none, false, (.mv (.t 26))⟩ :: q20_29
abbrev q20_31 : List RP := ⟨(some 26), none, false, (.mv (.t 2))⟩ :: q20_30
abbrev q20_32 : RQ := (.seq (.reg q20_31) .ret)
abbrev q20_33 : RQ := (.cond (.t 25) q20_32 .skip)
abbrev q20_34 : List RP := ⟨(some 9), none, false, (.mv (.c (.int .i64 0)))⟩ :: []
abbrev q20_35 : List RP := ⟨(some 8), none, false, (.mv (.t 30))⟩ :: q20_34
abbrev q20_36 : List RP := ⟨(some 30), none, false, (.bin .sub (.t 27) (.t 29))⟩ :: q20_35
abbrev q20_37 : List RP := ⟨(some 29), none, false, (.ld false 1 (.t 28))⟩ :: q20_36
abbrev q20_38 : List RP := ⟨(some 28), none, false, (.fa 1 (.t 4))⟩ :: q20_37
abbrev q20_39 : List RP := ⟨(some 27), none, false, (.mv (.t 2))⟩ :: q20_38
abbrev q20_40 : RQ := (.seq (.reg q20_39) .ret)
abbrev q20_41 : RQ := (.seq (.seq (.drw q20_28 []) q20_33) q20_40)
abbrev q20_42 : RQ := (.seq (.seq (.reg q20_18) q20_22) q20_41)
abbrev q20_43 : RQ := (.seq (.seq (.reg q20_8) q20_16) q20_42)
abbrev q20 : RQ := (.seq (.reg q20_3) q20_43)
theorem l20 : ∃ c, f20.body = some c ∧ liteC prog f20.ntmps c = some q20 := ⟨_, rfl, by kernel_rfl⟩
theorem e20 : prog.funcs[20]? = some f20 := by kernel_rfl
theorem r20 : mapO (resOf prog) f20.results.toList = some [(.t 8), (.t 9)] := by kernel_rfl
theorem n20 : f20.ntmps = 31 := rfl

abbrev q21_1 : List RP := ⟨(some 6), none, false, (.mv (.c (.int .i64 0)))⟩ :: []
abbrev q21_2 : List RP := ⟨(some 3), none, false, (.box (.t 0))⟩ :: q21_1
abbrev q21_3 : List RP := ⟨(some 16), none, false, (.pick (.t 11) (.c (.bool true)) (.t 15))⟩ :: []
abbrev q21_4 : List RP := ⟨(some 15), (some (11, false)), false, (.not (.t 14))⟩ :: q21_3
abbrev q21_5 : List RP := ⟨(some 14), (some (11, false)), false, (.cal 50 [(.c (.int .i64 1)), (.c (.int .i64 16)), (.t 13)])⟩ :: q21_4
abbrev q21_6 : List RP := ⟨(some 13), (some (11, false)), true, (.bslice 1 1 [(.int .i64 0)] [(0, (.t 12))])⟩ :: q21_5
abbrev q21_7 : List RP := ⟨(some 12), (some (11, false)), false, (.mv (.t 2))⟩ :: q21_6
abbrev q21_8 : List RP := ⟨(some 11), none, false, (.mv (.t 10))⟩ :: q21_7
abbrev q21_9 : List RP := ⟨(some 10), none, false, (.not (.t 9))⟩ :: q21_8
abbrev q21_10 : List RP := ⟨(some 9), none, false, (.cal 50 [(.c (.int .i64 1)), (.c (.int .i64 64)), (.t 8)])⟩ :: q21_9
abbrev q21_11 : List RP := ⟨(some 8), none, true, (.bslice 1 1 [(.int .i64 0)] [(0, (.t 7))])⟩ :: q21_10
abbrev q21_12 : List RP := ⟨(some 7), none, false, (.mv (.t 1))⟩ :: q21_11
abbrev q21_13 : List RP := ⟨(some 6), none, false, (.mv (.c (.int .i64 2)))⟩ :: []
abbrev q21_14 : RQ := (.seq (.reg q21_13) .ret)
abbrev q21_15 : RQ := (.cond (.t 16) q21_14 .skip)
abbrev q21_16 : List RP := ⟨(some 27), none, false, (.pick (.t 20) (.c (.bool true)) (.t 26))⟩ :: []
abbrev q21_17 : List RP := ⟨(some 26), (some (20, false)), false, (.not (.t 25))⟩ :: q21_16
abbrev q21_18 : List RP := ⟨(some 25), (some (20, false)), false, (.cal 50 [(.c (.int .i64 0)), (.t 21), (.t 24)])⟩ :: q21_17
abbrev q21_19 : List RP := ⟨(some 24), (some (20, false)), true, (.bslice 1 1 [(.int .i64 0)] [(0, (.t 23))])⟩ :: q21_18
abbrev q21_20 : List RP := ⟨(some 23), (some (20, false)), false, (.ld false 1 (.t 22))⟩ :: q21_19
abbrev q21_21 : List RP := ⟨(some 22), (some (20, false)), false, (.fa 1 (.t 3))⟩ :: q21_20
abbrev q21_22 : List RP := ⟨(some 21), (some (20, false)), true, (.mv (.t 2))⟩ :: q21_21
abbrev q21_23 : List RP := ⟨(some 20), none, false, (.mv (.t 19))⟩ :: q21_22
abbrev q21_24 : List RP := ⟨(some 19), none, false, (.bin .gtr (.t 18) (.c (.int .u64 4611686018427387904)))⟩ :: q21_23
abbrev q21_25 : List RP := ⟨(some 18), none, false, (.ld false 1 (.t 17))⟩ :: q21_24
abbrev q21_26 : List RP := ⟨(some 17), none, false, (.fa 0 (.t 3))⟩ :: q21_25
abbrev q21_27 : List RP := ⟨(some 6), none, false, (.mv (.c (.int .i64 8)))⟩ :: []
abbrev q21_28 : RQ := (.seq (.reg q21_27) .ret)
abbrev q21_29 : RQ := (.cond (.t 27) q21_28 .skip)
abbrev q21_30 : List RP := ⟨(some 6), none, false, (.mv (.c (.int .i64 0)))⟩ :: []
abbrev q21_31 : RQ := (.seq (.reg q21_30) .ret)
abbrev q21_32 : RQ := (.seq (.seq (.reg q21_26) q21_29) q21_31)
abbrev q21_33 : RQ := (.seq (.seq (.reg q21_12) q21_15) q21_32)
abbrev q21 : RQ := (.seq (.reg q21_2) q21_33)
theorem l21 : ∃ c, f21.body = some c ∧ liteC prog f21.ntmps c = some q21 := ⟨_, rfl, by kernel_rfl⟩
theorem e21 : prog.funcs[21]? = some f21 := by kernel_rfl
theorem r21 : mapO (resOf prog) f21.results.toList = some [(.t 6)] := by kernel_rfl
theorem n21 : f21.ntmps = 28 := rfl

abbrev q24_1 : List RP := ⟨(some 6), none, false, (.alloc [.nils, .nils, (.int .u64 0), (.int .i64 0), (.int .i64 0), (.int .i64 0), (.int .i64 0), (.int .i64 0), (.int .u8 0), (.int .u64 0), (.int .u64 0), (.int .i64 0), (.int .i64 0), (.int .i64 0), (.int .i64 0), (.int .i64 0), (.int .i64 0), (.int .i64 0)])⟩ :: []
abbrev q24_2 : List RP := ⟨(some 5), none, false, (.box (.t 2))⟩ :: q24_1
abbrev q24_3 : List RP := ⟨(some 4), none, false, (.box (.t 1))⟩ :: q24_2
abbrev q24_4 : List RP := ⟨(some 3), none, false, (.box (.t 0))⟩ :: q24_3
abbrev q24_5 : List RP := ⟨none, none, false, (.st 18 (.t 7) (.t 9))⟩ :: []
abbrev q24_6 : List RP := ⟨(some 7), none, false, (.alloc [.nils, .nils, (.int .u64 0), (.int .i64 0), (.int .i64 0), (.int .i64 0), (.int .i64 0), (.int .i64 0), (.int .u8 0), (.int .u64 0), (.int .u64 0), (.int .i64 0), (.int .i64 0), (.int .i64 0), (.int .i64 0), (.int .i64 0), (.int .i64 0), (.int .i64 0)])⟩ :: q24_5
abbrev q24_7 : List RP := ⟨(some 9), none, false, (.build [.nils, .nils, (.int .u64 0), (.int .i64 0), (.int .i64 0), (.int .i64 0), (.int .i64 0), (.int .i64 0), (.int .u8 0), (.int .u64 0), (.int .u64 0), (.int .i64 0), (.int .i64 0), (.int .i64 0), (.int .i64 0), (.int .i64 0), (.int .i64 0), (.int .i64 0)] [])⟩ :: q24_6
abbrev q24_8 : List RP := ⟨(some 8), none, false, (.mv (.c (.int .i64 0)))⟩ :: []
abbrev q24_9 : List RP := ⟨(some 12), none, false, (.bin .rem (.t 11) (.c (.int .u8 7)))⟩ :: []
abbrev q24_10 : List RP := ⟨(some 11), none, false, (.ld false 1 (.t 10))⟩ :: q24_9
abbrev q24_11 : List RP := ⟨(some 10), none, false, (.fa 0 (.t 5))⟩ :: q24_10
abbrev q24_12 : List RP := ⟨(some 13), none, false, (.mv (.t 14))⟩ :: []
abbrev q24_13 : List RP := ⟨(some 14), none, false, (.bin .eql (.t 12) (.c (.int .u8 0)))⟩ :: q24_12
abbrev q24_14 : List RP := ⟨(some 8), none, false, (.mv (.t 27))⟩ :: []
abbrev q24_15 : List RP := ⟨none, none, false, (.st 1 (.t 29) (.t 26))⟩ :: q24_14
abbrev q24_16 : List RP := ⟨(some 29), none, false, (.fa 4 (.t 7))⟩ :: q24_15
abbrev q24_17 : List RP := ⟨none, none, false, (.st 4 (.t 28) (.t 25))⟩ :: q24_16
abbrev q24_18 : List RP := ⟨(some 28), none, false, (.fa 0 (.t 7))⟩ :: q24_17
abbrev q24_19 : List RP := ⟨(some 27), none, false, (.ext (.t 15) 2)⟩ :: q24_18
abbrev q24_20 : List RP := ⟨(some 26), none, false, (.ext (.t 15) 1)⟩ :: q24_19
abbrev q24_21 : List RP := ⟨(some 25), none, false, (.ext (.t 15) 0)⟩ :: q24_20
abbrev q24_22 : List RP := ⟨(some 15), none, false, (.mv (.t 24))⟩ :: q24_21
abbrev q24_23 : List RP := ⟨(some 24), none, false, (.cal 28 [(.t 16), (.t 17), (.t 19), (.t 21), (.t 23)])⟩ :: q24_22
abbrev q24_24 : List RP := ⟨(some 23), none, true, (.ld false 1 (.t 22))⟩ :: q24_23
abbrev q24_25 : List RP := ⟨(some 22), none, false, (.fa 4 (.t 5))⟩ :: q24_24
abbrev q24_26 : List RP := ⟨(some 21), none, true, (.ld false 1 (.t 20))⟩ :: q24_25
abbrev q24_27 : List RP := ⟨(some 20), none, false, (.fa 2 (.t 5))⟩ :: q24_26
abbrev q24_28 : List RP := ⟨(some 19), none, true, (.ld false 1 (.t 18))⟩ :: q24_27
abbrev q24_29 : List RP := ⟨(some 18), none, false, (.fa 1 (.t 5))⟩ :: q24_28
abbrev q24_30 : List RP := ⟨(some 17), none, true, (.ld true 4 (.t 4))⟩ :: q24_29
abbrev q24_31 : List RP := ⟨(some 16), none, true, (.ld true 8 (.t 3))⟩ :: q24_30
abbrev q24_32 : RQ := (.reg q24_31)
abbrev q24_33 : List RP := ⟨(some 30), none, false, (.mv (.t 31))⟩ :: []
abbrev q24_34 : List RP := ⟨(some 31), none, false, (.bin .eql (.t 12) (.c (.int .u8 1)))⟩ :: q24_33
abbrev q24_35 : List RP := ⟨(some 8), none, false, (.mv (.t 39))⟩ :: []
abbrev q24_36 : List RP := ⟨none, none, false, (.st 4 (.t 40) (.t 38))⟩ :: q24_35
abbrev q24_37 : List RP := ⟨(some 40), none, false, (.fa 0 (.t 7))⟩ :: q24_36
abbrev q24_38 : List RP := ⟨(some 39), none, false, (.ext (.t 32) 1)⟩ :: q24_37
abbrev q24_39 : List RP := ⟨(some 38), none, false, (.ext (.t 32) 0)⟩ :: q24_38
abbrev q24_40 : List RP := ⟨(some 32), none, false, (.mv (.t 37))⟩ :: q24_39
abbrev q24_41 : List RP := ⟨(some 37), none, false, (.cal 46 [(.t 33), (.t 34), (.t 36)])⟩ :: q24_40
abbrev q24_42 : List RP := ⟨(some 36), none, true, (.ld false 1 (.t 35))⟩ :: q24_41
abbrev q24_43 : List RP := ⟨(some 35), none, false, (.fa 3 (.t 5))⟩ :: q24_42
abbrev q24_44 : List RP := ⟨(some 34), none, true, (.ld true 4 (.t 4))⟩ :: q24_43
abbrev q24_45 : List RP := ⟨(some 33), none, true, (.ld true 8 (.t 3))⟩ :: q24_44
abbrev q24_46 : RQ := (.reg q24_45)
abbrev q24_47 : List RP := ⟨(some 41), none, false, (.mv (.t 42))⟩ :: []
abbrev q24_48 : List RP := ⟨(some 42), none, false, (.bin .eql (.t 12) (.c (.int .u8 2)))⟩ :: q24_47
abbrev q24_49 : List RP := ⟨(some 8), none, false, (.mv (.t 49))⟩ :: []
abbrev q24_50 : List RP := ⟨none, none, false, (.st 1 (.t 51) (.t 48))⟩ :: q24_49
abbrev q24_51 : List RP := ⟨(some 51), none, false, (.fa 4 (.t 7))⟩ :: q24_50
abbrev q24_52 : List RP := ⟨none, none, false, (.st 4 (.t 50) (.t 47))⟩ :: q24_51
abbrev q24_53 : List RP := ⟨(some 50), none, false, (.fa 0 (.t 7))⟩ :: q24_52
abbrev q24_54 : List RP := ⟨(some 49), none, false, (.ext (.t 43) 2)⟩ :: q24_53
abbrev q24_55 : List RP := ⟨(some 48), none, false, (.ext (.t 43) 1)⟩ :: q24_54
abbrev q24_56 : List RP := ⟨(some 47), none, false, (.ext (.t 43) 0)⟩ :: q24_55
abbrev q24_57 : List RP := ⟨(some 43), none, false, (.mv (.t 46))⟩ :: q24_56
abbrev q24_58 : List RP := ⟨(some 46), none, false, (.cal 44 [(.t 44), (.t 45)])⟩ :: q24_57
abbrev q24_59 : List RP := ⟨(some 45), none, true, (.ld true 4 (.t 4))⟩ :: q24_58
abbrev q24_60 : List RP := ⟨(some 44), none, true, (.ld true 8 (.t 3))⟩ :: q24_59
abbrev q24_61 : RQ := (.reg q24_60)
abbrev q24_62 : List RP := ⟨(some 52), none, false, (.mv (.t 53))⟩ :: []
abbrev q24_63 : List RP := ⟨(some 53), none, false, (.bin .eql (.t 12) (.c (.int .u8 3)))⟩ :: q24_62
abbrev q24_64 : List RP := ⟨(some 8), none, false, (.mv (.t 61))⟩ :: []
abbrev q24_65 : List RP := ⟨none, none, false, (.st 4 (.t 62) (.t 60))⟩ :: q24_64
abbrev q24_66 : List RP := ⟨(some 62), none, false, (.fa 0 (.t 7))⟩ :: q24_65
abbrev q24_67 : List RP := ⟨(some 61), none, false, (.ext (.t 54) 1)⟩ :: q24_66
abbrev q24_68 : List RP := ⟨(some 60), none, false, (.ext (.t 54) 0)⟩ :: q24_67
abbrev q24_69 : List RP := ⟨(some 54), none, false, (.mv (.t 59))⟩ :: q24_68
abbrev q24_70 : List RP := ⟨(some 59), none, false, (.cal 51 [(.t 55), (.t 56), (.t 58)])⟩ :: q24_69
abbrev q24_71 : List RP := ⟨(some 58), none, true, (.ld false 1 (.t 57))⟩ :: q24_70
abbrev q24_72 : List RP := ⟨(some 57), none, false, (.fa 3 (.t 5))⟩ :: q24_71
abbrev q24_73 : List RP := ⟨(some 56), none, true, (.ld true 4 (.t 4))⟩ :: q24_72
abbrev q24_74 : List RP := ⟨(some 55), none, true, (.ld true 8 (.t 3))⟩ :: q24_73
abbrev q24_75 : RQ := (.reg q24_74)
abbrev q24_76 : List RP := ⟨(some 63), none, false, (.mv (.t 64))⟩ :: []
abbrev q24_77 : List RP := ⟨(some 64), none, false, (.bin .eql (.t 12) (.c (.int .u8 4)))⟩ :: q24_76
abbrev q24_78 : List RP := ⟨(some 8), none, false, (.mv (.t 74))⟩ :: []
abbrev q24_79 : List RP := ⟨none, none, false, (.st 4 (.t 75) (.t 73))⟩ :: q24_78
abbrev q24_80 : List RP := ⟨(some 75), none, false, (.fa 0 (.t 7))⟩ :: q24_79
abbrev q24_81 : List RP := ⟨(some 74), none, false, (.ext (.t 65) 1)⟩ :: q24_80
abbrev q24_82 : List RP := ⟨(some 73), none, false, (.ext (.t 65) 0)⟩ :: q24_81
abbrev q24_83 : List RP := ⟨(some 65), none, false, (.mv (.t 72))⟩ :: q24_82
abbrev q24_84 : List RP := ⟨(some 72), none, false, (.cal 52 [(.t 66), (.t 67), (.t 69), (.t 71)])⟩ :: q24_83
abbrev q24_85 : List RP := ⟨(some 71), none, true, (.ld false 1 (.t 70))⟩ :: q24_84
abbrev q24_86 : List RP := ⟨(some 70), none, false, (.fa 4 (.t 5))⟩ :: q24_85
abbrev q24_87 : List RP := ⟨(some 69), none, true, (.ld false 1 (.t 68))⟩ :: q24_86
abbrev q24_88 : List RP := ⟨(some 68), none, false, (.fa 3 (.t 5))⟩ :: q24_87
abbrev q24_89 : List RP := ⟨(some 67), none, true, (.ld true 4 (.t 4))⟩ :: q24_88
abbrev q24_90 : List RP := ⟨(some 66), none, true, (.ld true 8 (.t 3))⟩ :: q24_89
abbrev q24_91 : RQ := (.reg q24_90)
abbrev q24_92 : List RP := ⟨(some 76), none, false, (.mv (.t 77))⟩ :: []
abbrev q24_93 : List RP := ⟨(some 77), none, false, (.bin .eql (.t 12) (.c (.int .u8 5)))⟩ :: q24_92
abbrev q24_94 : List RP := ⟨(some 8), none, false, (.mv (.t 85))⟩ :: []
abbrev q24_95 : List RP := ⟨none, none, false, (.st 6 (.t 86) (.t 84))⟩ :: q24_94
abbrev q24_96 : List RP := ⟨(some 86), none, false, (.fa 5 (.t 7))⟩ :: q24_95
abbrev q24_97 : List RP := ⟨(some 85), none, false, (.ext (.t 78) 1)⟩ :: q24_96
abbrev q24_98 : List RP := ⟨(some 84), none, false, (.ext (.t 78) 0)⟩ :: q24_97
abbrev q24_99 : List RP := ⟨(some 78), none, false, (.mv (.t 83))⟩ :: q24_98
abbrev q24_100 : List RP := ⟨(some 83), none, false, (.cal 45 [(.t 79), (.t 80), (.t 82)])⟩ :: q24_99
abbrev q24_101 : List RP := ⟨(some 82), none, true, (.ld false 1 (.t 81))⟩ :: q24_100
abbrev q24_102 : List RP := ⟨(some 81), none, false, (.fa 3 (.t 5))⟩ :: q24_101
abbrev q24_103 : List RP := ⟨(some 80), none, true, (.ld true 4 (.t 4))⟩ :: q24_102
abbrev q24_104 : List RP := ⟨(some 79), none, true, (.ld true 8 (.t 3))⟩ :: q24_103
abbrev q24_105 : RQ := (.reg q24_104)
abbrev q24_106 : List RP := ⟨(some 87), none, false, (.mv (.t 88))⟩ :: []
abbrev q24_107 : List RP := ⟨(some 88), none, false, (.bin .eql (.t 12) (.c (.int .u8 6)))⟩ :: q24_106
abbrev q24_108 : List RP := ⟨(some 8), none, false, (.mv (.t 94))⟩ :: []
abbrev q24_109 : List RP := ⟨none, none, false, (.st 6 (.t 95) (.t 93))⟩ :: q24_108
abbrev q24_110 : List RP := ⟨(some 95), none, false, (.fa 11 (.t 7))⟩ :: q24_109
abbrev q24_111 : List RP := ⟨(some 94), none, false, (.ext (.t 89) 1)⟩ :: q24_110
abbrev q24_112 : List RP := ⟨(some 93), none, false, (.ext (.t 89) 0)⟩ :: q24_111
abbrev q24_113 : List RP := ⟨(some 89), none, false, (.mv (.t 92))⟩ :: q24_112
abbrev q24_114 : List RP := ⟨(some 92), none, false, (.cal 27 [(.t 90), (.t 91)])⟩ :: q24_113
abbrev q24_115 : List RP := ⟨(some 91), none, true, (.ld true 4 (.t 4))⟩ :: q24_114
abbrev q24_116 : List RP := ⟨(some 90), none, true, (.ld true 8 (.t 3))⟩ :: q24_115
abbrev q24_117 : RQ := (.reg q24_116)
abbrev q24_118 : RQ := (.cond (.t 87) q24_117 .skip)
abbrev q24_119 : RQ := (.seq (.reg q24_107) q24_118)
abbrev q24_120 : RQ := (.cond (.t 76) q24_105 q24_119)
abbrev q24_121 : RQ := (.seq (.reg q24_93) q24_120)
abbrev q24_122 : RQ := (.cond (.t 63) q24_91 q24_121)
abbrev q24_123 : RQ := (.seq (.reg q24_77) q24_122)
abbrev q24_124 : RQ := (.cond (.t 52) q24_75 q24_123)
abbrev q24_125 : RQ := (.seq (.reg q24_63) q24_124)
abbrev q24_126 : RQ := (.cond (.t 41) q24_61 q24_125)
abbrev q24_127 : RQ := (.seq (.reg q24_48) q24_126)
abbrev q24_128 : RQ := (.cond (.t 30) q24_46 q24_127)
abbrev q24_129 : RQ := (.seq (.reg q24_34) q24_128)
abbrev q24_130 : RQ := (.cond (.t 13) q24_32 q24_129)
abbrev q24_131 : RQ := (.block 0 (.seq (.reg q24_13) q24_130))
abbrev q24_132 : List RP := ⟨none, none, false, (.st 1 (.t 97) (.t 96))⟩ :: []
abbrev q24_133 : List RP := ⟨(some 97), none, false, (.fa 17 (.t 7))⟩ :: q24_132
abbrev q24_134 : List RP := ⟨(some 96), none, false, (.mv (.t 8))⟩ :: q24_133
abbrev q24_135 : List RP := ⟨none, none, false, (.st 18 (.t 6) (.t 98))⟩ :: []
abbrev q24_136 : List RP := ⟨(some 98), none, false, (.ld true 18 (.t 7))⟩ :: q24_135
abbrev q24_137 : RQ := (.seq (.reg q24_136) .ret)
abbrev q24_138 : RQ := (.seq (.reg q24_134) q24_137)
abbrev q24_139 : RQ := (.seq (.seq (.reg q24_11) q24_131) q24_138)
abbrev q24_140 : RQ := (.seq (.reg q24_8) q24_139)
abbrev q24_141 : RQ := (.seq (.reg q24_7) q24_140)
abbrev q24 : RQ := (.seq (.reg q24_4) q24_141)
theorem l24 : ∃ c, f24.body = some c ∧ liteC prog f24.ntmps c = some q24 := ⟨_, rfl, by kernel_rfl⟩
theorem e24 : prog.funcs[24]? = some f24 := by kernel_rfl
theorem r24 : mapO (resOf prog) f24.results.toList = some [(.c 6 true 18)] := by kernel_rfl
theorem n24 : f24.ntmps = 99 := rfl

abbrev q26_1 : List RP := ⟨(some 2), none, false, (.mv (.c (.bool false)))⟩ :: []
abbrev q26_2 : List RP := ⟨(some 1), none, false, (.box (.t 0))⟩ :: q26_1
abbrev q26_3 : List RP := ⟨(some 2), none, false, (.mv (.t 6))⟩ :: []
abbrev q26_4 : List RP := ⟨(some 6), none, false, (.bin .leq (.t 5) (.c (.int .u8 4)))⟩ :: q26_3
abbrev q26_5 : List RP := ⟨(some 5), none, false, (.bin .rem (.t 4) (.c (.int .u8 7)))⟩ :: q26_4
abbrev q26_6 : List RP := ⟨(some 4), none, false, (.ld false 1 (.t 3))⟩ :: q26_5
abbrev q26_7 : List RP := ⟨(some 3), none, false, (.fa 0 (.t 1))⟩ :: q26_6
abbrev q26_8 : RQ := (.seq (.reg q26_7) .ret)
abbrev q26 : RQ := (.seq (.reg q26_2) q26_8)
theorem l26 : ∃ c, f26.body = some c ∧ liteC prog f26.ntmps c = some q26 := ⟨_, rfl, by kernel_rfl⟩
theorem e26 : prog.funcs[26]? = some f26 := by kernel_rfl
theorem r26 : mapO (resOf prog) f26.results.toList = some [(.t 2)] := by kernel_rfl
theorem n26 : f26.ntmps = 7 := rfl

abbrev q27_1 : List RP := ⟨(some 5), none, false, (.mv (.c (.int .i64 0)))⟩ :: []
abbrev q27_2 : List RP := ⟨(some 4), none, false, (.alloc [(.int .i64 0), (.int .i64 0), (.int .i64 0), (.int .i64 0), (.int .i64 0), (.int .i64 0)])⟩ :: q27_1
abbrev q27_3 : List RP := ⟨(some 3), none, false, (.box (.t 1))⟩ :: q27_2
abbrev q27_4 : List RP := ⟨(some 2), none, false, (.box (.t 0))⟩ :: q27_3
abbrev q27_5 : List RP := ⟨(some 7), none, false, (.mv (.t 16))⟩ :: []
abbrev q27_6 : List RP := ⟨none, none, false, (.st 12 (.t 6) (.t 15))⟩ :: q27_5
abbrev q27_7 : List RP := ⟨(some 6), none, false, (.alloc [.nils, .nils, (.int .u64 0), (.int .i64 0), .nils, .nils, .nils, (.int .i64 0), (.int .i64 0), (.int .i64 0), (.int .i64 0), (.int .i64 0)])⟩ :: q27_6
abbrev q27_8 : List RP := ⟨(some 16), none, false, (.ext (.t 11) 1)⟩ :: q27_7
abbrev q27_9 : List RP := ⟨(some 15), none, false, (.ext (.t 11) 0)⟩ :: q27_8
abbrev q27_10 : List RP := ⟨(some 11), none, false, (.mv (.t 14))⟩ :: q27_9
abbrev q27_11 : List RP := ⟨(some 14), none, false, (.cal 53 [(.t 12), (.t 13)])⟩ :: q27_10
abbrev q27_12 : List RP := ⟨(some 13), none, true, (.ld true 4 (.t 3))⟩ :: q27_11
abbrev q27_13 : List RP := ⟨(some 12), none, true, (.ld true 8 (.t 2))⟩ :: q27_12
abbrev q27_14 : List RP := ⟨(some 18), none, false, (.bin .neq (.t 17) (.c (.int .i64 0)))⟩ :: []
abbrev q27_15 : List RP := ⟨(some 17), none, false, (.mv (.t 7))⟩ :: q27_14
abbrev q27_16 : List RP := ⟨(some 5), none, false, (.mv (.t 20))⟩ :: []
abbrev q27_17 : List RP := ⟨none, none, false, (.st 6 (.t 4) (.t 19))⟩ :: q27_16
abbrev q27_18 : List RP := ⟨(some 20), none, false, (.mv (.t 7))⟩ :: q27_17
abbrev q27_19 : List RP := ⟨(some 19), none, false, (.build [(.int .i64 0), (.int .i64 0), (.int .i64 0), (.int .i64 0), (.int .i64 0), (.int .i64 0)] [])⟩ :: q27_18
abbrev q27_20 : RQ := (.seq (.reg q27_19) .ret)
abbrev q27_21 : RQ := (.cond (.t 18) q27_20 .skip)
abbrev q27_22 : List RP := ⟨none, none, false, (.st 6 (.t 8) (.t 25))⟩ :: []
abbrev q27_23 : List RP := ⟨(some 8), none, false, (.alloc [(.int .i64 0), (.int .i64 0), (.int .i64 0), (.int .i64 0), (.int .i64 0), (.int .i64 0)])⟩ :: q27_22
abbrev q27_24 : List RP := ⟨(some 25), none, false, (.build [(.int .i64 0), (.int .i64 0), (.int .i64 0), (.int .i64 0), (.int .i64 0), (.int .i64 0)] [(0, 1, (.t 24))])⟩ :: q27_23
abbrev q27_25 : List RP := ⟨(some 24), none, false, (.len (.t 23))⟩ :: q27_24
abbrev q27_26 : List RP := ⟨(some 23), none, false, (.ld false 1 (.t 22))⟩ :: q27_25
abbrev q27_27 : List RP := ⟨(some 22), none, false, (.fa 0 (.t 21))⟩ :: q27_26
abbrev q27_28 : List RP := ⟨(some 21), none, false, (.fa 0 (.t 6))⟩ :: q27_27
abbrev q27_29 : List RP := ⟨(some 30), none, false, (.mv (.c (.int .i64 0)))⟩ :: []
abbrev q27_30 : List RP := ⟨(some 29), none, false, (.len (.t 28))⟩ :: q27_29
abbrev q27_31 : List RP := ⟨(some 28), none, false, (.ld false 1 (.t 27))⟩ :: q27_30
abbrev q27_32 : List RP := ⟨(some 27), none, false, (.fa 0 (.t 26))⟩ :: q27_31
abbrev q27_33 : List RP := ⟨(some 26), none, false, (.fa 0 (.t 6))⟩ :: q27_32
abbrev q27_34 : List RP := ⟨(some 31), none, false, (.bin .lss (.t 30) (.t 29))⟩ :: []
abbrev q27_35 : RQ := (.exit 0)
abbrev q27_36 : List RP := ⟨none, none, false, (.st 6 (.t 10) (.t 33))⟩ :: []
abbrev q27_37 : List RP := ⟨(some 10), none, false, (.alloc [(.int .i64 0), (.int .i64 0), (.int .i64 0), (.int .u8 0), (.int .u64 0), (.int .u64 0)])⟩ :: q27_36
abbrev q27_38 : List RP := ⟨(some 33), none, false, (.ld true 6 (.t 32))⟩ :: q27_37
abbrev q27_39 : List RP := ⟨(some 32), none, false, (.ias 6 (.t 28) (.t 30))⟩ :: q27_38
abbrev q27_40 : List RP := ⟨none, none, false, (.st 1 (.t 39) (.t 38))⟩ :: []
abbrev q27_41 : List RP := ⟨(some 39), none, false, (.iaa 6 1 (.t 8) (.t 35))⟩ :: q27_40
abbrev q27_42 : List RP := ⟨(some 38), none, false, (.bin .add (.t 37) (.c (.int .i64 1)))⟩ :: q27_41
abbrev q27_43 : List RP := ⟨(some 37), none, false, (.ld false 1 (.t 36))⟩ :: q27_42
abbrev q27_44 : List RP := ⟨(some 36), none, false, (.iaa 6 1 (.t 8) (.t 35))⟩ :: q27_43
abbrev q27_45 : List RP := ⟨(some 35), none, false, (.ld false 1 (.t 34))⟩ :: q27_44
abbrev q27_46 : List RP := ⟨(some 34), none, false, (.fa 3 (.t 10))⟩ :: q27_45
abbrev q27_47 : RQ := (.reg q27_46)
abbrev q27_48 : List RP := ⟨(some 30), none, false, (.mv (.t 40))⟩ :: []
abbrev q27_49 : List RP := ⟨(some 40), none, false, (.bin .add (.t 30) (.c (.int .i64 1)))⟩ :: q27_48
abbrev q27_50 : RQ := (.reg q27_49)
abbrev q27_51 : RQ := (.seq (.block 1 (.seq (.reg q27_39) q27_47)) q27_50)
abbrev q27_52 : RQ := (.seq (.cond (.t 31) .skip q27_35) q27_51)
abbrev q27_53 : RQ := (.seq (.reg q27_34) q27_52)
abbrev q27_54 : RQ := (.block 0 (.loop q27_53))
abbrev q27_55 : List RP := ⟨(some 5), none, false, (.mv (.c (.int .i64 0)))⟩ :: []
abbrev q27_56 : List RP := ⟨none, none, false, (.st 6 (.t 4) (.t 41))⟩ :: q27_55
abbrev q27_57 : List RP := ⟨(some 41), none, false, (.ld true 6 (.t 8))⟩ :: q27_56
abbrev q27_58 : RQ := (.seq (.reg q27_57) .ret)
abbrev q27_59 : RQ := (.seq (.seq (.reg q27_33) q27_54) q27_58)
abbrev q27_60 : RQ := (.seq (.reg q27_28) q27_59)
abbrev q27_61 : RQ := (.seq (.seq (.reg q27_15) q27_21) q27_60)
abbrev q27_62 : RQ := (.seq (.reg q27_13) q27_61)
abbrev q27 : RQ := (.seq (.reg q27_4) q27_62)
theorem l27 : ∃ c, f27.body = some c ∧ liteC prog f27.ntmps c = some q27 := ⟨_, rfl, by kernel_rfl⟩
theorem e27 : prog.funcs[27]? = some f27 := by kernel_rfl
theorem r27 : mapO (resOf prog) f27.results.toList = some [(.c 4 true 6), (.t 5)] := by kernel_rfl
theorem n27 : f27.ntmps = 42 := rfl

abbrev q28_1 : List RP := ⟨(some 12), none, false, (.mv (.c (.int .i64 0)))⟩ :: []
abbrev q28_2 : List RP := ⟨(some 11), none, false, (.mv (.c (.int .i64 0)))⟩ :: q28_1
abbrev q28_3 : List RP := ⟨(some 10), none, false, (.alloc [.nils, .nils, (.int .u64 0), (.int .i64 0)])⟩ :: q28_2
abbrev q28_4 : List RP := ⟨(some 6), none, false, (.box (.t 1))⟩ :: q28_3
abbrev q28_5 : List RP := ⟨(some 5), none, false, (.box (.t 0))⟩ :: q28_4
abbrev q28_6 : List RP := ⟨(some 14), none, false, (.mv (.t 21))⟩ :: []
abbrev q28_7 : List RP := ⟨none, none, false, (.st 12 (.t 13) (.t 20))⟩ :: q28_6
abbrev q28_8 : List RP := ⟨(some 13), none, false, (.alloc [.nils, .nils, (.int .u64 0), (.int .i64 0), .nils, .nils, .nils, (.int .i64 0), (.int .i64 0), (.int .i64 0), (.int .i64 0), (.int .i64 0)])⟩ :: q28_7
abbrev q28_9 : List RP := ⟨(some 21), none, false, (.ext (.t 16) 1)⟩ :: q28_8
abbrev q28_10 : List RP := ⟨(some 20), none, false, (.ext (.t 16) 0)⟩ :: q28_9
abbrev q28_11 : List RP := ⟨(some 16), none, false, (.mv (.t 19))⟩ :: q28_10
abbrev q28_12 : List RP := ⟨(some 19), none, false, (.cal 53 [(.t 17), (.t 18)])⟩ :: q28_11
abbrev q28_13 : List RP := ⟨(some 18), none, true, (.ld true 4 (.t 6))⟩ :: q28_12
abbrev q28_14 : List RP := ⟨(some 17), none, true, (.ld true 8 (.t 5))⟩ :: q28_13
abbrev q28_15 : List RP := ⟨(some 23), none, false, (.bin .neq (.t 22) (.c (.int .i64 0)))⟩ :: []
abbrev q28_16 : List RP := ⟨(some 22), none, false, (.mv (.t 14))⟩ :: q28_15
abbrev q28_17 : List RP := ⟨(some 12), none, false, (.mv (.t 25))⟩ :: []
abbrev q28_18 : List RP := ⟨(some 11), none, false, (.mv (.c (.int .i64 0)))⟩ :: q28_17
abbrev q28_19 : List RP := ⟨none, none, false, (.st 4 (.t 10) (.t 24))⟩ :: q28_18
abbrev q28_20 : List RP := ⟨(some 25), none, false, (.mv (.t 14))⟩ :: q28_19
abbrev q28_21 : List RP := ⟨(some 24), none, false, (.build [.nils, .nils, (.int .u64 0), (.int .i64 0)] [])⟩ :: q28_20
abbrev q28_22 : RQ := (.seq (.reg q28_21) .ret)
abbrev q28_23 : RQ := (.cond (.t 23) q28_22 .skip)
abbrev q28_24 : List RP := ⟨(some 34), none, false, (.pick (.t 31) (.c (.bool true)) (.t 33))⟩ :: []
abbrev q28_25 : List RP := ⟨(some 33), (some (31, false)), false, (.bin .gtr (.t 32) (.c (.int .u64 4611686018427387904)))⟩ :: q28_24
abbrev q28_26 : List RP := ⟨(some 32), (some (31, false)), false, (.mv (.t 4))⟩ :: q28_25
abbrev q28_27 : List RP := ⟨(some 31), none, false, (.mv (.t 30))⟩ :: q28_26
abbrev q28_28 : List RP := ⟨(some 30), none, false, (.not (.t 29))⟩ :: q28_27
abbrev q28_29 : List RP := ⟨(some 29), none, false, (.cal 54 [(.t 26), (.t 27), (.t 28)])⟩ :: q28_28
abbrev q28_30 : List RP := ⟨(some 28), none, true, (.mv (.t 3))⟩ :: q28_29
abbrev q28_31 : List RP := ⟨(some 27), none, true, (.mv (.t 2))⟩ :: q28_30
abbrev q28_32 : List RP := ⟨(some 26), none, true, (.ld true 12 (.t 13))⟩ :: q28_31
abbrev q28_33 : List RP := ⟨(some 12), none, false, (.mv (.c (.int .i64 2)))⟩ :: []
abbrev q28_34 : List RP := ⟨(some 11), none, false, (.mv (.c (.int .i64 0)))⟩ :: q28_33
abbrev q28_35 : List RP := ⟨none, none, false, (.st 4 (.t 10) (.t 35))⟩ :: q28_34
abbrev q28_36 : List RP := ⟨(some 35), none, false, (.build [.nils, .nils, (.int .u64 0), (.int .i64 0)] [])⟩ :: q28_35
abbrev q28_37 : RQ := (.seq (.reg q28_36) .ret)
abbrev q28_38 : RQ := (.cond (.t 34) q28_37 .skip)
abbrev q28_39 : List RP := ⟨(some 40), none, false, (.bin .eql (.t 39) (.c (.int .i64 64)))⟩ :: []
abbrev q28_40 : List RP := ⟨(some 39), none, false, (.len (.t 38))⟩ :: q28_39
abbrev q28_41 : List RP := ⟨(some 38), none, false, (.ld false 1 (.t 37))⟩ :: q28_40
abbrev q28_42 : List RP := ⟨(some 37), none, false, (.fa 0 (.t 36))⟩ :: q28_41
abbrev q28_43 : List RP := ⟨(some 36), none, false, (.fa 0 (.t 13))⟩ :: q28_42
abbrev q28_44 : List RP := ⟨(some 12), none, false, (.mv (.c (.int .i64 4)))⟩ :: []
abbrev q28_45 : List RP := ⟨(some 11), none, false, (.mv (.c (.int .i64 0)))⟩ :: q28_44
abbrev q28_46 : List RP := ⟨none, none, false, (.st 4 (.t 10) (.t 41))⟩ :: q28_45
abbrev q28_47 : List RP := ⟨(some 41), none, false, (.build [.nils, .nils, (.int .u64 0), (.int .i64 0)] [])⟩ :: q28_46
abbrev q28_48 : RQ := (.seq (.reg q28_47) .ret)
abbrev q28_49 : RQ := (.cond (.t 40) q28_48 .skip)
abbrev q28_50 : List RP := ⟨(some 48), none, false, (.bin .eql (.t 45) (.t 47))⟩ :: []
abbrev q28_51 : List RP := ⟨(some 47), none, false, (.ld false 1 (.t 46))⟩ :: q28_50
abbrev q28_52 : List RP := ⟨(some 46), none, false, (.fa 5 (.t 5))⟩ :: q28_51
abbrev q28_53 : List RP := ⟨(some 45), none, false, (.len (.t 44))⟩ :: q28_52
abbrev q28_54 : List RP := ⟨(some 44), none, false, (.ld false 1 (.t 43))⟩ :: q28_53
abbrev q28_55 : List RP := ⟨(some 43), none, false, (.fa 1 (.t 42))⟩ :: q28_54
abbrev q28_56 : List RP := ⟨(some 42), none, false, (.fa 0 (.t 13))⟩ :: q28_55
abbrev q28_57 : List RP := ⟨(some 12), none, false, (.mv (.c (.int .i64 9)))⟩ :: []
abbrev q28_58 : List RP := ⟨(some 11), none, false, (.mv (.c (.int .i64 0)))⟩ :: q28_57
abbrev q28_59 : List RP := ⟨none, none, false, (.st 4 (.t 10) (.t 49))⟩ :: q28_58
abbrev q28_60 : List RP := ⟨(some 49), none, false, (.build [.nils, .nils, (.int .u64 0), (.int .i64 0)] [])⟩ :: q28_59
abbrev q28_61 : RQ := (.seq (.reg q28_60) .ret)
abbrev q28_62 : RQ := (.cond (.t 48) q28_61 .skip)
abbrev q28_63 : List RP := ⟨(some 14), none, false, (.mv (.t 61))⟩ :: []
abbrev q28_64 : List RP := ⟨none, none, false, (.st 2 (.t 63) (.t 60))⟩ :: q28_63
abbrev q28_65 : List RP := ⟨(some 63), none, false, (.fa 2 (.t 62))⟩ :: q28_64
abbrev q28_66 : List RP := ⟨(some 62), none, false, (.fa 0 (.t 13))⟩ :: q28_65
abbrev q28_67 : List RP := ⟨(some 61), none, false, (.ext (.t 50) 1)⟩ :: q28_66
abbrev q28_68 : List RP := ⟨(some 60), none, false, (.ext (.t 50) 0)⟩ :: q28_67
abbrev q28_69 : List RP := ⟨(some 50), none, false, (.mv (.t 59))⟩ :: q28_68
abbrev q28_70 : List RP := ⟨(some 59), none, false, (.cal 19 [(.t 53), (.t 55), (.t 57), (.t 58)])⟩ :: q28_69
abbrev q28_71 : List RP := ⟨(some 58), none, true, (.mv (.t 4))⟩ :: q28_70
abbrev q28_72 : List RP := ⟨(some 57), none, true, (.ld false 1 (.t 56))⟩ :: q28_71
abbrev q28_73 : List RP := ⟨(some 56), none, false, (.fa 6 (.t 5))⟩ :: q28_72
abbrev q28_74 : List RP := ⟨(some 55), none, true, (.ld false 1 (.t 54))⟩ :: q28_73
abbrev q28_75 : List RP := ⟨(some 54), none, false, (.fa 7 (.t 5))⟩ :: q28_74
abbrev q28_76 : List RP := ⟨(some 53), none, true, (.ld true 2 (.t 52))⟩ :: q28_75
abbrev q28_77 : List RP := ⟨(some 52), none, false, (.fa 2 (.t 51))⟩ :: q28_76
abbrev q28_78 : List RP := ⟨(some 51), none, false, (.fa 0 (.t 13))⟩ :: q28_77
abbrev q28_79 : List RP := ⟨(some 65), none, false, (.bin .neq (.t 64) (.c (.int .i64 0)))⟩ :: []
abbrev q28_80 : List RP := ⟨(some 64), none, false, (.mv (.t 14))⟩ :: q28_79
abbrev q28_81 : List RP := ⟨(some 12), none, false, (.mv (.t 67))⟩ :: []
abbrev q28_82 : List RP := ⟨(some 11), none, false, (.mv (.c (.int .i64 0)))⟩ :: q28_81
abbrev q28_83 : List RP := ⟨none, none, false, (.st 4 (.t 10) (.t 66))⟩ :: q28_82
abbrev q28_84 : List RP := ⟨(some 67), none, false, (.mv (.t 14))⟩ :: q28_83
abbrev q28_85 : List RP := ⟨(some 66), none, false, (.build [.nils, .nils, (.int .u64 0), (.int .i64 0)] [])⟩ :: q28_84
abbrev q28_86 : RQ := (.seq (.reg q28_85) .ret)
abbrev q28_87 : RQ := (.cond (.t 65) q28_86 .skip)
abbrev q28_88 : List RP := ⟨(some 14), none, false, (.mv (.t 79))⟩ :: []
abbrev q28_89 : List RP := ⟨none, none, false, (.st 6 (.t 15) (.t 78))⟩ :: q28_88
abbrev q28_90 : List RP := ⟨(some 15), none, false, (.alloc [(.int .i64 0), (.int .i64 0), (.int .i64 0), (.int .u8 0), (.int .u64 0), (.int .u64 0)])⟩ :: q28_89
abbrev q28_91 : List RP := ⟨(some 79), none, false, (.ext (.t 68) 1)⟩ :: q28_90
abbrev q28_92 : List RP := ⟨(some 78), none, false, (.ext (.t 68) 0)⟩ :: q28_91
abbrev q28_93 : List RP := ⟨(some 68), none, false, (.mv (.t 77))⟩ :: q28_92
abbrev q28_94 : List RP := ⟨(some 77), none, false, (.cal 16 [(.t 73), (.t 74), (.t 75), (.t 76)])⟩ :: q28_93
abbrev q28_95 : List RP := ⟨(some 76), none, true, (.mv (.t 4))⟩ :: q28_94
abbrev q28_96 : List RP := ⟨(some 75), none, true, (.mv (.t 3))⟩ :: q28_95
abbrev q28_97 : List RP := ⟨(some 74), none, true, (.mv (.t 2))⟩ :: q28_96
abbrev q28_98 : List RP := ⟨(some 73), none, true, (.bin .add (.t 72) (.c (.int .i64 1)))⟩ :: q28_97
abbrev q28_99 : List RP := ⟨(some 72), none, false, (.len (.t 71))⟩ :: q28_98
abbrev q28_100 : List RP := ⟨(some 71), none, false, (.ld false 1 (.t 70))⟩ :: q28_99
abbrev q28_101 : List RP := ⟨(some 70), none, false, (.fa 0 (.t 69))⟩ :: q28_100
abbrev q28_102 : List RP := ⟨(some 69), none, false, (.fa 0 (.t 13))⟩ :: q28_101
abbrev q28_103 : List RP := ⟨(some 81), none, false, (.bin .neq (.t 80) (.c (.int .i64 0)))⟩ :: []
abbrev q28_104 : List RP := ⟨(some 80), none, false, (.mv (.t 14))⟩ :: q28_103
abbrev q28_105 : List RP := ⟨(some 12), none, false, (.mv (.t 83))⟩ :: []
abbrev q28_106 : List RP := ⟨(some 11), none, false, (.mv (.c (.int .i64 0)))⟩ :: q28_105
abbrev q28_107 : List RP := ⟨none, none, false, (.st 4 (.t 10) (.t 82))⟩ :: q28_106
abbrev q28_108 : List RP := ⟨(some 83), none, false, (.mv (.t 14))⟩ :: q28_107
abbrev q28_109 : List RP := ⟨(some 82), none, false, (.build [.nils, .nils, (.int .u64 0), (.int .i64 0)] [])⟩ :: q28_108
abbrev q28_110 : RQ := (.seq (.reg q28_109) .ret)
abbrev q28_111 : RQ := (.cond (.t 81) q28_110 .skip)
abbrev q28_112 : List RP := ⟨none, none, false, (.st 1 (.t 91) (.t 89))⟩ :: []
abbrev q28_113 : List RP := ⟨(some 91), none, false, (.fa 0 (.t 90))⟩ :: q28_112
abbrev q28_114 : List RP := ⟨(some 90), none, false, (.fa 0 (.t 13))⟩ :: q28_113
abbrev q28_115 : List RP := ⟨(some 89), none, false, (.app 6 48 [(.int .i64 0), (.int .i64 0), (.int .i64 0), (.int .u8 0), (.int .u64 0), (.int .u64 0)] (.t 86) (.t 88))⟩ :: q28_114
abbrev q28_116 : List RP := ⟨(some 88), none, true, (.bslice 6 1 [(.int .i64 0), (.int .i64 0), (.int .i64 0), (.int .u8 0), (.int .u64 0), (.int .u64 0)] [(0, (.t 87))])⟩ :: q28_115
abbrev q28_117 : List RP := ⟨(some 87), none, false, (.ld true 6 (.t 15))⟩ :: q28_116
abbrev q28_118 : List RP := ⟨(some 86), none, false, (.ld false 1 (.t 85))⟩ :: q28_117
abbrev q28_119 : List RP := ⟨(some 85), none, false, (.fa 0 (.t 84))⟩ :: q28_118
abbrev q28_120 : List RP := ⟨(some 84), none, false, (.fa 0 (.t 13))⟩ :: q28_119
abbrev q28_121 : List RP := ⟨none, none, false, (.st 1 (.t 100) (.t 98))⟩ :: []
abbrev q28_122 : List RP := ⟨(some 100), none, false, (.fa 1 (.t 99))⟩ :: q28_121
abbrev q28_123 : List RP := ⟨(some 99), none, false, (.fa 0 (.t 13))⟩ :: q28_122
abbrev q28_124 : List RP := ⟨(some 98), none, false, (.app 1 8 [(.int .i64 0)] (.t 94) (.t 97))⟩ :: q28_123
abbrev q28_125 : List RP := ⟨(some 97), none, true, (.bslice 1 1 [(.int .i64 0)] [(0, (.t 96))])⟩ :: q28_124
abbrev q28_126 : List RP := ⟨(some 96), none, false, (.ld false 1 (.t 95))⟩ :: q28_125
abbrev q28_127 : List RP := ⟨(some 95), none, false, (.fa 0 (.t 15))⟩ :: q28_126
abbrev q28_128 : List RP := ⟨(some 94), none, false, (.ld false 1 (.t 93))⟩ :: q28_127
abbrev q28_129 : List RP := ⟨(some 93), none, false, (.fa 1 (.t 92))⟩ :: q28_128
abbrev q28_130 : List RP := ⟨(some 92), none, false, (.fa 0 (.t 13))⟩ :: q28_129
abbrev q28_131 : List (Bool × RP) := (false, ⟨(some 12), none, false, (.mv (.c (.int .i64 0)))⟩) :: []
abbrev q28_132 : List (Bool × RP) := (false, ⟨(some 11), none, false, (.mv (.t 104))⟩) :: q28_131
abbrev q28_133 : List (Bool × RP) := (false, ⟨none, none, false, (.st 4 (.t 10) (.t 102))⟩) :: q28_132
abbrev q28_134 : List (Bool × RP) := (true, ⟨(some 104), none, false, (.ld false 1 (.t 103))⟩) :: q28_133
abbrev q28_135 : List (Bool × RP) := (true, ⟨(some 103), none, false, (.fa 0 (.t 15))⟩) :: q28_134
abbrev q28_136 : List (Bool × RP) := (false, ⟨(some 102), none, false, (.ld true 4 (.t 101))⟩) :: q28_135
abbrev q28_137 : List (Bool × RP) := (false, ⟨(some 101), none, false, (.fa 0 (.t 13))⟩) :: q28_136
abbrev q28_138 : RQ := (.seq (.drw q28_137 []) .ret)
abbrev q28_139 : RQ := (.seq (.reg q28_130) q28_138)
abbrev q28_140 : RQ := (.seq (.reg q28_120) q28_139)
abbrev q28_141 : RQ := (.seq (.seq (.reg q28_104) q28_111) q28_140)
abbrev q28_142 : RQ := (.seq (.reg q28_102) q28_141)
abbrev q28_143 : RQ := (.seq (.seq (.reg q28_80) q28_87) q28_142)
abbrev q28_144 : RQ := (.seq (.reg q28_78) q28_143)
abbrev q28_145 : RQ := (.seq (.seq (.reg q28_56) q28_62) q28_144)
abbrev q28_146 : RQ := (.seq (.seq (.reg q28_43) q28_49) q28_145)
abbrev q28_147 : RQ := (.seq (.seq (.reg q28_32) q28_38) q28_146)
abbrev q28_148 : RQ := (.seq (.seq (.reg q28_16) q28_23) q28_147)
abbrev q28_149 : RQ := (.seq (.reg q28_14) q28_148)
abbrev q28 : RQ := (.seq (.reg q28_5) q28_149)
theorem l28 : ∃ c, f28.body = some c ∧ liteC prog f28.ntmps c = some q28 := ⟨_, rfl, by kernel_rfl⟩
theorem e28 : prog.funcs[28]? = some f28 := by kernel_rfl
theorem r28 : mapO (resOf prog) f28.results.toList = some [(.c 10 true 4), (.t 11), (.t 12)] := by kernel_rfl
theorem n28 : f28.ntmps = 105 := rfl

abbrev q29_1 : List RP := ⟨(some 4), none, false, (.mv (.c (.int .i64 0)))⟩ :: []
abbrev q29_2 : List RP := ⟨(some 3), none, false, (.box (.t 1))⟩ :: q29_1
abbrev q29_3 : List RP := ⟨(some 2), none, false, (.box (.t 0))⟩ :: q29_2
abbrev q29_4 : List RP := ⟨(some 4), none, false, (.mv (.t 8))⟩ :: []
abbrev q29_5 : List RP := ⟨(some 8), none, false, (.cal 55 [(.t 7)])⟩ :: q29_4
abbrev q29_6 : List RP := ⟨(some 7), none, true, (.build [.nils, .nils, (.int .u64 0), (.int .i64 0), .nils, .nils, .nils, (.int .i64 0), (.int .i64 0), (.int .i64 0), (.int .i64 0), (.int .i64 0)] [(0, 4, (.t 5)), (4, 8, (.t 6))])⟩ :: q29_5
abbrev q29_7 : List RP := ⟨(some 6), none, false, (.ld true 8 (.t 2))⟩ :: q29_6
abbrev q29_8 : List RP := ⟨(some 5), none, false, (.ld true 4 (.t 3))⟩ :: q29_7
abbrev q29_9 : RQ := (.seq (.reg q29_8) .ret)
abbrev q29 : RQ := (.seq (.reg q29_3) q29_9)
theorem l29 : ∃ c, f29.body = some c ∧ liteC prog f29.ntmps c = some q29 := ⟨_, rfl, by kernel_rfl⟩
theorem e29 : prog.funcs[29]? = some f29 := by kernel_rfl
theorem r29 : mapO (resOf prog) f29.results.toList = some [(.t 4)] := by kernel_rfl
theorem n29 : f29.ntmps = 9 := rfl

abbrev q30_1 : List RP := ⟨(some 9), none, false, (.mv (.c (.int .i64 0)))⟩ :: []
abbrev q30_2 : List RP := ⟨(some 8), none, false, (.alloc [(.int .i64 0), (.int .i64 0), (.int .i64 0), (.int .u8 0), (.int .u64 0), (.int .u64 0)])⟩ :: q30_1
abbrev q30_3 : List RP := ⟨none, none, false, (.st 6 (.t 10) (.t 15))⟩ :: []
abbrev q30_4 : List RP := ⟨(some 10), none, false, (.alloc [(.int .i64 0), (.int .i64 0), (.int .i64 0), (.int .u8 0), (.int .u64 0), (.int .u64 0)])⟩ :: q30_3
abbrev q30_5 : List RP := ⟨(some 15), none, false, (.build [(.int .i64 0), (.int .i64 0), (.int .i64 0), (.int .u8 0), (.int .u64 0), (.int .u64 0)] [(0, 1, (.t 11)), (1, 1, (.t 12)), (2, 1, (.t 13)), (3, 1, (.c (.int .u8 1))), (4, 1, (.t 14))])⟩ :: q30_4
abbrev q30_6 : List RP := ⟨(some 14), none, false, (.mv (.t 3))⟩ :: q30_5
abbrev q30_7 : List RP := ⟨(some 13), none, false, (.mv (.t 2))⟩ :: q30_6
abbrev q30_8 : List RP := ⟨(some 12), none, false, (.mv (.t 1))⟩ :: q30_7
abbrev q30_9 : List RP := ⟨(some 11), none, false, (.mv (.t 0))⟩ :: q30_8
abbrev q30_10 : List RP := ⟨(some 18), none, false, (.not (.t 17))⟩ :: []
abbrev q30_11 : List RP := ⟨(some 17), none, false, (.cal 56 [(.t 16)])⟩ :: q30_10
abbrev q30_12 : List RP := ⟨(some 16), none, true, (.ld true 6 (.t 10))⟩ :: q30_11
abbrev q30_13 : List RP := ⟨(some 9), none, false, (.mv (.c (.int .i64 2)))⟩ :: []
abbrev q30_14 : List RP := ⟨none, none, false, (.st 6 (.t 8) (.t 19))⟩ :: q30_13
abbrev q30_15 : List RP := ⟨(some 19), none, false, (.build [(.int .i64 0), (.int .i64 0), (.int .i64 0), (.int .u8 0), (.int .u64 0), (.int .u64 0)] [])⟩ :: q30_14
abbrev q30_16 : RQ := (.seq (.reg q30_15) .ret)
abbrev q30_17 : RQ := (.cond (.t 18) q30_16 .skip)
abbrev q30_18 : List RP := ⟨(some 9), none, false, (.mv (.c (.int .i64 0)))⟩ :: []
abbrev q30_19 : List RP := ⟨none, none, false, (.st 6 (.t 8) (.t 20))⟩ :: q30_18
abbrev q30_20 : List RP := ⟨(some 20), none, false, (.ld true 6 (.t 10))⟩ :: q30_19
abbrev q30_21 : RQ := (.seq (.reg q30_20) .ret)
abbrev q30_22 : RQ := (.seq (.seq (.reg q30_12) q30_17) q30_21)
abbrev q30_23 : RQ := (.seq (.reg q30_9) q30_22)
abbrev q30 : RQ := (.seq (.reg q30_2) q30_23)
theorem l30 : ∃ c, f30.body = some c ∧ liteC prog f30.ntmps c = some q30 := ⟨_, rfl, by kernel_rfl⟩
theorem e30 : prog.funcs[30]? = some f30 := by kernel_rfl
theorem r30 : mapO (resOf prog) f30.results.toList = some [(.c 8 true 6), (.t 9)] := by kernel_rfl
theorem n30 : f30.ntmps = 21 := rfl

abbrev q31_1 : List RP := ⟨(some 2), none, false, (.mv (.c (.int .i64 0)))⟩ :: []
abbrev q31_2 : List RP := ⟨(some 1), none, false, (.box (.t 0))⟩ :: q31_1
abbrev q31_3 : List RP := ⟨(some 32), none, false, (.pick (.t 28) (.c (.bool true)) (.t 31))⟩ :: []
abbrev q31_4 : List RP := ⟨(some 31), (some (28, false)), false, (.not (.t 30))⟩ :: q31_3
abbrev q31_5 : List RP := ⟨(some 30), (some (28, false)), false, (.cal 57 [(.t 29)])⟩ :: q31_4
abbrev q31_6 : List RP := ⟨(some 29), (some (28, false)), true, (.ld true 6 (.t 1))⟩ :: q31_5
abbrev q31_7 : List RP := ⟨(some 28), none, false, (.mv (.t 27))⟩ :: q31_6
abbrev q31_8 : List RP := ⟨(some 27), none, false, (.pick (.t 23) (.c (.bool true)) (.t 26))⟩ :: q31_7
abbrev q31_9 : List RP := ⟨(some 26), (some (23, false)), false, (.bin .gtr (.t 25) (.c (.int .u64 4611686018427387904)))⟩ :: q31_8
abbrev q31_10 : List RP := ⟨(some 25), (some (23, false)), false, (.ld false 1 (.t 24))⟩ :: q31_9
abbrev q31_11 : List RP := ⟨(some 24), (some (23, false)), false, (.fa 4 (.t 1))⟩ :: q31_10
abbrev q31_12 : List RP := ⟨(some 23), none, false, (.mv (.t 22))⟩ :: q31_11
abbrev q31_13 : List RP := ⟨(some 22), none, false, (.pick (.t 17) (.c (.bool true)) (.t 21))⟩ :: q31_12
abbrev q31_14 : List RP := ⟨(some 21), (some (17, false)), false, (.not (.t 20))⟩ :: q31_13
abbrev q31_15 : List RP := ⟨(some 20), (some (17, false)), false, (.cal 47 [(.t 19)])⟩ :: q31_14
abbrev q31_16 : List RP := ⟨(some 19), (some (17, false)), true, (.ld false 1 (.t 18))⟩ :: q31_15
abbrev q31_17 : List RP := ⟨(some 18), (some (17, false)), false, (.fa 3 (.t 1))⟩ :: q31_16
abbrev q31_18 : List RP := ⟨(some 17), none, false, (.mv (.t 16))⟩ :: q31_17
abbrev q31_19 : List RP := ⟨(some 16), none, false, (.pick (.t 8) (.c (.bool true)) (.t 15))⟩ :: q31_18
abbrev q31_20 : List RP := ⟨(some 15), (some (8, false)), false, (.not (.t 14))⟩ :: q31_19
abbrev q31_21 : List RP := ⟨(some 14), (some (8, false)), false, (.cal 50 [(.c (.int .i64 0)), (.c (.int .i64 2)), (.t 13)])⟩ :: q31_20
abbrev q31_22 : List RP := ⟨(some 13), (some (8, false)), true, (.bslice 1 2 [(.int .i64 0)] [(0, (.t 10)), (1, (.t 12))])⟩ :: q31_21
abbrev q31_23 : List RP := ⟨(some 12), (some (8, false)), false, (.ld false 1 (.t 11))⟩ :: q31_22
abbrev q31_24 : List RP := ⟨(some 11), (some (8, false)), false, (.fa 2 (.t 1))⟩ :: q31_23
abbrev q31_25 : List RP := ⟨(some 10), (some (8, false)), false, (.ld false 1 (.t 9))⟩ :: q31_24
abbrev q31_26 : List RP := ⟨(some 9), (some (8, false)), false, (.fa 1 (.t 1))⟩ :: q31_25
abbrev q31_27 : List RP := ⟨(some 8), none, false, (.mv (.t 7))⟩ :: q31_26
abbrev q31_28 : List RP := ⟨(some 7), none, false, (.not (.t 6))⟩ :: q31_27
abbrev q31_29 : List RP := ⟨(some 6), none, false, (.cal 50 [(.c (.int .i64 1)), (.c (.int .i64 64)), (.t 5)])⟩ :: q31_28
abbrev q31_30 : List RP := ⟨(some 5), none, true, (.bslice 1 1 [(.int .i64 0)] [(0, (.t 4))])⟩ :: q31_29
abbrev q31_31 : List RP := ⟨(some 4), none, false, (.ld false 1 (.t 3))⟩ :: q31_30
abbrev q31_32 : List RP := ⟨(some 3), none, false, (.fa 0 (.t 1))⟩ :: q31_31
abbrev q31_33 : List RP := ⟨(some 2), none, false, (.mv (.c (.int .i64 8)))⟩ :: []
abbrev q31_34 : RQ := (.seq (.reg q31_33) .ret)
abbrev q31_35 : RQ := (.cond (.t 32) q31_34 .skip)
abbrev q31_36 : List RP := ⟨(some 2), none, false, (.mv (.c (.int .i64 0)))⟩ :: []
abbrev q31_37 : RQ := (.seq (.reg q31_36) .ret)
abbrev q31_38 : RQ := (.seq (.seq (.reg q31_32) q31_35) q31_37)
abbrev q31 : RQ := (.seq (.reg q31_2) q31_38)
theorem l31 : ∃ c, f31.body = some c ∧ liteC prog f31.ntmps c = some q31 := ⟨_, rfl, by kernel_rfl⟩
theorem e31 : prog.funcs[31]? = some f31 := by kernel_rfl
theorem r31 : mapO (resOf prog) f31.results.toList = some [(.t 2)] := by kernel_rfl
theorem n31 : f31.ntmps = 33 := rfl

abbrev q32_1 : List RP := ⟨(some 2), none, false, (.mv (.c (.int .i64 0)))⟩ :: []
abbrev q32_2 : List RP := ⟨(some 1), none, false, (.box (.t 0))⟩ :: q32_1
abbrev q32_3 : List RP := ⟨(some 5), none, false, (.not (.t 4))⟩ :: []
abbrev q32_4 : List RP := ⟨(some 4), none, false, (.cal 56 [(.t 3)])⟩ :: q32_3
abbrev q32_5 : List RP := ⟨(some 3), none, true, (.ld true 6 (.t 1))⟩ :: q32_4
abbrev q32_6 : List RP := ⟨(some 2), none, false, (.mv (.c (.int .i64 8)))⟩ :: []
abbrev q32_7 : RQ := (.seq (.reg q32_6) .ret)
abbrev q32_8 : RQ := (.cond (.t 5) q32_7 .skip)
abbrev q32_9 : List RP := ⟨(some 2), none, false, (.mv (.c (.int .i64 0)))⟩ :: []
abbrev q32_10 : RQ := (.seq (.reg q32_9) .ret)
abbrev q32_11 : RQ := (.seq (.seq (.reg q32_5) q32_8) q32_10)
abbrev q32 : RQ := (.seq (.reg q32_2) q32_11)
theorem l32 : ∃ c, f32.body = some c ∧ liteC prog f32.ntmps c = some q32 := ⟨_, rfl, by kernel_rfl⟩
theorem e32 : prog.funcs[32]? = some f32 := by kernel_rfl
theorem r32 : mapO (resOf prog) f32.results.toList = some [(.t 2)] := by kernel_rfl
theorem n32 : f32.ntmps = 6 := rfl

abbrev q33_1 : List RP := ⟨(some 7), none, false, (.mv (.c (.int .i64 0)))⟩ :: []
abbrev q33_2 : List RP := ⟨(some 6), none, false, (.alloc [(.int .i64 0), (.int .i64 0), (.int .i64 0), (.int .u8 0), (.int .u64 0), (.int .u64 0)])⟩ :: q33_1
abbrev q33_3 : List RP := ⟨(some 3), none, false, (.box (.t 0))⟩ :: q33_2
abbrev q33_4 : List RP := ⟨(some 10), none, false, (.not (.t 9))⟩ :: []
abbrev q33_5 : List RP := ⟨(some 9), none, false, (.cal 56 [(.t 8)])⟩ :: q33_4
abbrev q33_6 : List RP := ⟨(some 8), none, true, (.ld true 6 (.t 3))⟩ :: q33_5
abbrev q33_7 : List RP := ⟨(some 7), none, false, (.mv (.c (.int .i64 8)))⟩ :: []
abbrev q33_8 : List RP := ⟨none, none, false, (.st 6 (.t 6) (.t 11))⟩ :: q33_7
abbrev q33_9 : List RP := ⟨(some 11), none, false, (.build [(.int .i64 0), (.int .i64 0), (.int .i64 0), (.int .u8 0), (.int .u64 0), (.int .u64 0)] [])⟩ :: q33_8
abbrev q33_10 : RQ := (.seq (.reg q33_9) .ret)
abbrev q33_11 : RQ := (.cond (.t 10) q33_10 .skip)
abbrev q33_12 : List RP := ⟨(some 29), none, false, (.pick (.t 22) (.c (.bool true)) (.t 28))⟩ :: []
abbrev q33_13 : List RP := ⟨(some 28), (some (22, false)), false, (.pick (.t 25) (.t 27) (.c (.bool false)))⟩ :: q33_12
abbrev q33_14 : List RP := ⟨(some 27), (some (25, true)), false, (.bin .eql (.t 26) (.c (.int .u64 0)))⟩ :: q33_13
abbrev q33_15 : List RP := ⟨(some 26), (some (25, true)), false, (.mv (.t 2))⟩ :: q33_14
abbrev q33_16 : List RP := ⟨(some 25), (some (22, false)), false, (.mv (.t 24))⟩ :: q33_15
abbrev q33_17 : List RP := ⟨(some 24), (some (22, false)), false, (.bin .eql (.t 23) (.c (.int .u8 4)))⟩ :: q33_16
abbrev q33_18 : List RP := ⟨(some 23), (some (22, false)), false, (.mv (.t 1))⟩ :: q33_17
abbrev q33_19 : List RP := ⟨(some 22), none, false, (.mv (.t 21))⟩ :: q33_18
abbrev q33_20 : List RP := ⟨(some 21), none, false, (.pick (.t 18) (.c (.bool true)) (.t 20))⟩ :: q33_19
abbrev q33_21 : List RP := ⟨(some 20), (some (18, false)), false, (.bin .gtr (.t 19) (.c (.int .u64 4611686018427387904)))⟩ :: q33_20
abbrev q33_22 : List RP := ⟨(some 19), (some (18, false)), false, (.mv (.t 2))⟩ :: q33_21
abbrev q33_23 : List RP := ⟨(some 18), none, false, (.mv (.t 17))⟩ :: q33_22
abbrev q33_24 : List RP := ⟨(some 17), none, false, (.pick (.t 14) (.c (.bool true)) (.t 16))⟩ :: q33_23
abbrev q33_25 : List RP := ⟨(some 16), (some (14, false)), false, (.bin .gtr (.t 15) (.c (.int .u8 5)))⟩ :: q33_24
abbrev q33_26 : List RP := ⟨(some 15), (some (14, false)), false, (.mv (.t 1))⟩ :: q33_25
abbrev q33_27 : List RP := ⟨(some 14), none, false, (.mv (.t 13))⟩ :: q33_26
abbrev q33_28 : List RP := ⟨(some 13), none, false, (.bin .lss (.t 12) (.c (.int .u8 1)))⟩ :: q33_27
abbrev q33_29 : List RP := ⟨(some 12), none, false, (.mv (.t 1))⟩ :: q33_28
abbrev q33_30 : List RP := ⟨(some 7), none, false, (.mv (.c (.int .i64 2)))⟩ :: []
abbrev q33_31 : List RP := ⟨none, none, false, (.st 6 (.t 6) (.t 30))⟩ :: q33_30
abbrev q33_32 : List RP := ⟨(some 30), none, false, (.build [(.int .i64 0), (.int .i64 0), (.int .i64 0), (.int .u8 0), (.int .u64 0), (.int .u64 0)] [])⟩ :: q33_31
abbrev q33_33 : RQ := (.seq (.reg q33_32) .ret)
abbrev q33_34 : RQ := (.cond (.t 29) q33_33 .skip)
abbrev q33_35 : List RP := ⟨(some 35), none, false, (.not (.t 34))⟩ :: []
abbrev q33_36 : List RP := ⟨(some 34), none, false, (.cal 58 [(.t 32), (.t 33)])⟩ :: q33_35
abbrev q33_37 : List RP := ⟨(some 33), none, true, (.mv (.t 1))⟩ :: q33_36
abbrev q33_38 : List RP := ⟨(some 32), none, true, (.ld false 1 (.t 31))⟩ :: q33_37
abbrev q33_39 : List RP := ⟨(some 31), none, false, (.fa 3 (.t 3))⟩ :: q33_38
abbrev q33_40 : List RP := ⟨(some 7), none, false, (.mv (.c (.int .i64 150)))⟩ :: []
abbrev q33_41 : List RP := ⟨none, none, false, (.st 6 (.t 6) (.t 36))⟩ :: q33_40
abbrev q33_42 : List RP := ⟨(some 36), none, false, (.build [(.int .i64 0), (.int .i64 0), (.int .i64 0), (.int .u8 0), (.int .u64 0), (.int .u64 0)] [])⟩ :: q33_41
abbrev q33_43 : RQ := (.seq (.reg q33_42) .ret)
abbrev q33_44 : RQ := (.cond (.t 35) q33_43 .skip)
abbrev q33_45 : List RP := ⟨none, none, false, (.st 1 (.t 38) (.t 37))⟩ :: []
abbrev q33_46 : List RP := ⟨(some 38), none, false, (.fa 3 (.t 3))⟩ :: q33_45
abbrev q33_47 : List RP := ⟨(some 37), none, false, (.mv (.t 1))⟩ :: q33_46
abbrev q33_48 : List RP := ⟨(some 40), none, false, (.bin .eql (.t 39) (.c (.int .u8 4)))⟩ :: []
abbrev q33_49 : List RP := ⟨(some 39), none, false, (.mv (.t 1))⟩ :: q33_48
abbrev q33_50 : List RP := ⟨none, none, false, (.st 1 (.t 42) (.t 41))⟩ :: []
abbrev q33_51 : List RP := ⟨(some 42), none, false, (.fa 5 (.t 3))⟩ :: q33_50
abbrev q33_52 : List RP := ⟨(some 41), none, false, (.mv (.t 2))⟩ :: q33_51
abbrev q33_53 : RQ := (.reg q33_52)
abbrev q33_54 : RQ := (.cond (.t 40) q33_53 .skip)
abbrev q33_55 : List RP := ⟨(some 7), none, false, (.mv (.c (.int .i64 0)))⟩ :: []
abbrev q33_56 : List RP := ⟨none, none, false, (.st 6 (.t 6) (.t 43))⟩ :: q33_55
abbrev q33_57 : List RP := ⟨(some 43), none, false, (.ld true 6 (.t 3))⟩ :: q33_56
abbrev q33_58 : RQ := (.seq (.reg q33_57) .ret)
abbrev q33_59 : RQ := (.seq (.seq (.reg q33_49) q33_54) q33_58)
abbrev q33_60 : RQ := (.seq (.reg q33_47) q33_59)
abbrev q33_61 : RQ := (.seq (.seq (.reg q33_39) q33_44) q33_60)
abbrev q33_62 : RQ := (.seq (.seq (.reg q33_29) q33_34) q33_61)
abbrev q33_63 : RQ := (.seq (.seq (.reg q33_6) q33_11) q33_62)
abbrev q33 : RQ := (.seq (.reg q33_3) q33_63)
theorem l33 : ∃ c, f33.body = some c ∧ liteC prog f33.ntmps c = some q33 := ⟨_, rfl, by kernel_rfl⟩
theorem e33 : prog.funcs[33]? = some f33 := by kernel_rfl
theorem r33 : mapO (resOf prog) f33.results.toList = some [(.c 6 true 6), (.t 7)] := by kernel_rfl
theorem n33 : f33.ntmps = 44 := rfl

abbrev q34_1 : List RP := ⟨(some 9), none, false, (.mv (.c (.int .i64 0)))⟩ :: []
abbrev q34_2 : List RP := ⟨(some 8), none, false, (.alloc [(.int .u64 0), (.int .i64 0)])⟩ :: q34_1
abbrev q34_3 : List RP := ⟨(some 4), none, false, (.box (.t 0))⟩ :: q34_2
abbrev q34_4 : List RP := ⟨(some 10), none, false, (.mv (.t 16))⟩ :: []
abbrev q34_5 : List RP := ⟨(some 16), none, false, (.cal 59 [(.t 12), (.t 13), (.t 14), (.t 15)])⟩ :: q34_4
abbrev q34_6 : List RP := ⟨(some 15), none, true, (.mv (.t 3))⟩ :: q34_5
abbrev q34_7 : List RP := ⟨(some 14), none, true, (.mv (.t 2))⟩ :: q34_6
abbrev q34_8 : List RP := ⟨(some 13), none, true, (.mv (.t 1))⟩ :: q34_7
abbrev q34_9 : List RP := ⟨(some 12), none, true, (.ld true 2 (.t 4))⟩ :: q34_8
abbrev q34_10 : List RP := ⟨(some 18), none, false, (.bin .neq (.t 17) (.c (.int .i64 0)))⟩ :: []
abbrev q34_11 : List RP := ⟨(some 17), none, false, (.mv (.t 10))⟩ :: q34_10
abbrev q34_12 : List RP := ⟨(some 9), none, false, (.mv (.t 20))⟩ :: []
abbrev q34_13 : List RP := ⟨none, none, false, (.st 2 (.t 8) (.t 19))⟩ :: q34_12
abbrev q34_14 : List RP := ⟨(some 20), none, false, (.mv (.t 10))⟩ :: q34_13
abbrev q34_15 : List RP := ⟨(some 19), none, false, (.build [(.int .u64 0), (.int .i64 0)] [])⟩ :: q34_14
abbrev q34_16 : RQ := (.seq (.reg q34_15) .ret)
abbrev q34_17 : RQ := (.cond (.t 18) q34_16 .skip)
abbrev q34_18 : List RP := ⟨(some 11), none, false, (.mv (.t 24))⟩ :: []
abbrev q34_19 : List RP := ⟨(some 24), none, false, (.cal 60 [(.t 21), (.t 22), (.t 23)])⟩ :: q34_18
abbrev q34_20 : List RP := ⟨(some 23), none, true, (.mv (.t 3))⟩ :: q34_19
abbrev q34_21 : List RP := ⟨(some 22), none, true, (.mv (.t 1))⟩ :: q34_20
abbrev q34_22 : List RP := ⟨(some 21), none, true, (.ld true 2 (.t 4))⟩ :: q34_21
abbrev q34_23 : List RP := ⟨(some 27), none, false, (.bin .eql (.t 25) (.t 26))⟩ :: []
abbrev q34_24 : List RP := ⟨(some 26), none, false, (.mv (.t 2))⟩ :: q34_23
abbrev q34_25 : List RP := ⟨(some 25), none, false, (.mv (.t 11))⟩ :: q34_24
abbrev q34_26 : List RP := ⟨(some 9), none, false, (.mv (.c (.int .i64 160)))⟩ :: []
abbrev q34_27 : List RP := ⟨none, none, false, (.st 2 (.t 8) (.t 28))⟩ :: q34_26
abbrev q34_28 : List RP := ⟨(some 28), none, false, (.build [(.int .u64 0), (.int .i64 0)] [])⟩ :: q34_27
abbrev q34_29 : RQ := (.seq (.reg q34_28) .ret)
abbrev q34_30 : RQ := (.cond (.t 27) q34_29 .skip)
abbrev q34_31 : List RP := ⟨(some 9), none, false, (.mv (.c (.int .i64 0)))⟩ :: []
abbrev q34_32 : List RP := ⟨none, none, false, (.st 2 (.t 8) (.t 35))⟩ :: q34_31
abbrev q34_33 : List RP := ⟨(some 35), none, false, (.build [(.int .u64 0), (.int .i64 0)] [(0, 1, (.t 32)), (1, 1, (.t 34))])⟩ :: q34_32
abbrev q34_34 : List RP := ⟨(some 34), none, false, (.bin .add (.t 33) (.c (.int .i64 1)))⟩ :: q34_33
abbrev q34_35 : List RP := ⟨(some 33), none, false, (.mv (.t 11))⟩ :: q34_34
abbrev q34_36 : List RP := ⟨(some 32), none, false, (.bin .quo (.t 29) (.t 31))⟩ :: q34_35
abbrev q34_37 : List RP := ⟨(some 31), none, false, (.cv .u64 (.t 30))⟩ :: q34_36
abbrev q34_38 : List RP := ⟨(some 30), none, false, (.mv (.t 1))⟩ :: q34_37
abbrev q34_39 : List RP := ⟨(some 29), none, false, (.mv (.t 3))⟩ :: q34_38
abbrev q34_40 : RQ := (.seq (.reg q34_39) .ret)
abbrev q34_41 : RQ := (.seq (.seq (.reg q34_25) q34_30) q34_40)
abbrev q34_42 : RQ := (.seq (.reg q34_22) q34_41)
abbrev q34_43 : RQ := (.seq (.seq (.reg q34_11) q34_17) q34_42)
abbrev q34_44 : RQ := (.seq (.reg q34_9) q34_43)
abbrev q34 : RQ := (.seq (.reg q34_3) q34_44)
theorem l34 : ∃ c, f34.body = some c ∧ liteC prog f34.ntmps c = some q34 := ⟨_, rfl, by kernel_rfl⟩
theorem e34 : prog.funcs[34]? = some f34 := by kernel_rfl
theorem r34 : mapO (resOf prog) f34.results.toList = some [(.c 8 true 2), (.t 9)] := by kernel_rfl
theorem n34 : f34.ntmps = 36 := rfl

abbrev q35_1 : List RP := ⟨(some 6), none, false, (.mv (.c (.int .i64 0)))⟩ :: []
abbrev q35_2 : List RP := ⟨(some 3), none, false, (.box (.t 0))⟩ :: q35_1
abbrev q35_3 : List RP := ⟨(some 20), none, false, (.pick (.t 17) (.c (.bool true)) (.t 19))⟩ :: []
abbrev q35_4 : List RP := ⟨(some 19), (some (17, false)), false, (.bin .gtr (.t 18) (.c (.int .i64 16)))⟩ :: q35_3
abbrev q35_5 : List RP := ⟨(some 18), (some (17, false)), false, (.mv (.t 2))⟩ :: q35_4
abbrev q35_6 : List RP := ⟨(some 17), none, false, (.mv (.t 16))⟩ :: q35_5
abbrev q35_7 : List RP := ⟨(some 16), none, false, (.pick (.t 13) (.c (.bool true)) (.t 15))⟩ :: q35_6
abbrev q35_8 : List RP := ⟨(some 15), (some (13, false)), false, (.bin .lss (.t 14) (.c (.int .i64 1)))⟩ :: q35_7
abbrev q35_9 : List RP := ⟨(some 14), (some (13, false)), false, (.mv (.t 2))⟩ :: q35_8
abbrev q35_10 : List RP := ⟨(some 13), none, false, (.mv (.t 12))⟩ :: q35_9
abbrev q35_11 : List RP := ⟨(some 12), none, false, (.pick (.t 9) (.c (.bool true)) (.t 11))⟩ :: q35_10
abbrev q35_12 : List RP := ⟨(some 11), (some (9, false)), false, (.bin .gtr (.t 10) (.c (.int .i64 64)))⟩ :: q35_11
abbrev q35_13 : List RP := ⟨(some 10), (some (9, false)), false, (.mv (.t 1))⟩ :: q35_12
abbrev q35_14 : List RP := ⟨(some 9), none, false, (.mv (.t 8))⟩ :: q35_13
abbrev q35_15 : List RP := ⟨(some 8), none, false, (.bin .lss (.t 7) (.c (.int .i64 1)))⟩ :: q35_14
abbrev q35_16 : List RP := ⟨(some 7), none, false, (.mv (.t 1))⟩ :: q35_15
abbrev q35_17 : List RP := ⟨(some 6), none, false, (.mv (.c (.int .i64 2)))⟩ :: []
abbrev q35_18 : RQ := (.seq (.reg q35_17) .ret)
abbrev q35_19 : RQ := (.cond (.t 20) q35_18 .skip)
abbrev q35_20 : List RP := ⟨(some 34), none, false, (.pick (.t 29) (.c (.bool true)) (.t 33))⟩ :: []
abbrev q35_21 : List RP := ⟨(some 33), (some (29, false)), false, (.bin .gtr (.t 31) (.t 32))⟩ :: q35_20
abbrev q35_22 : List RP := ⟨(some 32), (some (29, false)), false, (.mv (.t 2))⟩ :: q35_21
abbrev q35_23 : List RP := ⟨(some 31), (some (29, false)), false, (.ld false 1 (.t 30))⟩ :: q35_22
abbrev q35_24 : List RP := ⟨(some 30), (some (29, false)), false, (.fa 1 (.t 3))⟩ :: q35_23
abbrev q35_25 : List RP := ⟨(some 29), none, false, (.mv (.t 28))⟩ :: q35_24
abbrev q35_26 : List RP := ⟨(some 28), none, false, (.pick (.t 24) (.c (.bool true)) (.t 27))⟩ :: q35_25
abbrev q35_27 : List RP := ⟨(some 27), (some (24, false)), false, (.bin .lss (.t 26) (.c (.int .i64 0)))⟩ :: q35_26
abbrev q35_28 : List RP := ⟨(some 26), (some (24, false)), false, (.ld false 1 (.t 25))⟩ :: q35_27
abbrev q35_29 : List RP := ⟨(some 25), (some (24, false)), false, (.fa 1 (.t 3))⟩ :: q35_28
abbrev q35_30 : List RP := ⟨(some 24), none, false, (.mv (.t 23))⟩ :: q35_29
abbrev q35_31 : List RP := ⟨(some 23), none, false, (.bin .gtr (.t 22) (.c (.int .u64 4611686018427387904)))⟩ :: q35_30
abbrev q35_32 : List RP := ⟨(some 22), none, false, (.ld false 1 (.t 21))⟩ :: q35_31
abbrev q35_33 : List RP := ⟨(some 21), none, false, (.fa 0 (.t 3))⟩ :: q35_32
abbrev q35_34 : List RP := ⟨(some 6), none, false, (.mv (.c (.int .i64 8)))⟩ :: []
abbrev q35_35 : RQ := (.seq (.reg q35_34) .ret)
abbrev q35_36 : RQ := (.cond (.t 34) q35_35 .skip)
abbrev q35_37 : List RP := ⟨(some 6), none, false, (.mv (.c (.int .i64 0)))⟩ :: []
abbrev q35_38 : RQ := (.seq (.reg q35_37) .ret)
abbrev q35_39 : RQ := (.seq (.seq (.reg q35_33) q35_36) q35_38)
abbrev q35_40 : RQ := (.seq (.seq (.reg q35_16) q35_19) q35_39)
abbrev q35 : RQ := (.seq (.reg q35_2) q35_40)
theorem l35 : ∃ c, f35.body = some c ∧ liteC prog f35.ntmps c = some q35 := ⟨_, rfl, by kernel_rfl⟩
theorem e35 : prog.funcs[35]? = some f35 := by kernel_rfl
theorem r35 : mapO (resOf prog) f35.results.toList = some [(.t 6)] := by kernel_rfl
theorem n35 : f35.ntmps = 35 := rfl

abbrev q36_1 : List RP := ⟨(some 9), none, false, (.mv (.c (.int .i64 0)))⟩ :: []
abbrev q36_2 : List RP := ⟨(some 8), none, false, (.mv (.c (.int .i64 0)))⟩ :: q36_1
abbrev q36_3 : List RP := ⟨(some 4), none, false, (.box (.t 0))⟩ :: q36_2
abbrev q36_4 : List RP := ⟨(some 10), none, false, (.mv (.t 15))⟩ :: []
abbrev q36_5 : List RP := ⟨(some 15), none, false, (.cal 59 [(.t 11), (.t 12), (.t 13), (.t 14)])⟩ :: q36_4
abbrev q36_6 : List RP := ⟨(some 14), none, true, (.mv (.t 3))⟩ :: q36_5
abbrev q36_7 : List RP := ⟨(some 13), none, true, (.mv (.t 2))⟩ :: q36_6
abbrev q36_8 : List RP := ⟨(some 12), none, true, (.mv (.t 1))⟩ :: q36_7
abbrev q36_9 : List RP := ⟨(some 11), none, true, (.ld true 2 (.t 4))⟩ :: q36_8
abbrev q36_10 : List RP := ⟨(some 17), none, false, (.bin .neq (.t 16) (.c (.int .i64 0)))⟩ :: []
abbrev q36_11 : List RP := ⟨(some 16), none, false, (.mv (.t 10))⟩ :: q36_10
abbrev q36_12 : List RP := ⟨(some 9), none, false, (.mv (.t 18))⟩ :: []
abbrev q36_13 : List RP := ⟨(some 8), none, false, (.mv (.c (.int .i64 0)))⟩ :: q36_12
abbrev q36_14 : List RP := ⟨(some 18), none, false, (.mv (.t 10))⟩ :: q36_13
abbrev q36_15 : RQ := (.seq (.reg q36_14) .ret)
abbrev q36_16 : RQ := (.cond (.t 17) q36_15 .skip)
abbrev q36_17 : List RP := ⟨(some 9), none, false, (.mv (.c (.int .i64 0)))⟩ :: []
abbrev q36_18 : List RP := ⟨(some 8), none, false, (.mv (.t 24))⟩ :: q36_17
abbrev q36_19 : List RP := ⟨(some 24), none, false, (.bin .sub (.t 19) (.t 23))⟩ :: q36_18
abbrev q36_20 : List RP := ⟨(some 23), none, false, (.cal 60 [(.t 20), (.t 21), (.t 22)])⟩ :: q36_19
abbrev q36_21 : List RP := ⟨(some 22), none, true, (.mv (.t 3))⟩ :: q36_20
abbrev q36_22 : List RP := ⟨(some 21), none, true, (.mv (.t 1))⟩ :: q36_21
abbrev q36_23 : List RP := ⟨(some 20), none, true, (.ld true 2 (.t 4))⟩ :: q36_22
abbrev q36_24 : List RP := ⟨(some 19), none, false, (.mv (.t 2))⟩ :: q36_23
abbrev q36_25 : RQ := (.seq (.reg q36_24) .ret)
abbrev q36_26 : RQ := (.seq (.seq (.reg q36_11) q36_16) q36_25)
abbrev q36_27 : RQ := (.seq (.reg q36_9) q36_26)
abbrev q36 : RQ := (.seq (.reg q36_3) q36_27)
theorem l36 : ∃ c, f36.body = some c ∧ liteC prog f36.ntmps c = some q36 := ⟨_, rfl, by kernel_rfl⟩
theorem e36 : prog.funcs[36]? = some f36 := by kernel_rfl
theorem r36 : mapO (resOf prog) f36.results.toList = some [(.t 8), (.t 9)] := by kernel_rfl
theorem n36 : f36.ntmps = 25 := rfl

abbrev q37_1 : List RP := ⟨(some 2), none, false, (.alloc [.nils, .nils, (.int .u64 0), (.int .i64 0)])⟩ :: []
abbrev q37_2 : List RP := ⟨(some 1), none, false, (.box (.t 0))⟩ :: q37_1
abbrev q37_3 : List RP := ⟨none, none, false, (.st 1 (.t 6) (.t 5))⟩ :: []
abbrev q37_4 : List RP := ⟨(some 6), none, false, (.fa 0 (.t 1))⟩ :: q37_3
abbrev q37_5 : List RP := ⟨(some 5), none, false, (.app 6 48 [(.int .i64 0), (.int .i64 0), (.int .i64 0), (.int .u8 0), (.int .u64 0), (.int .u64 0)] (.c .nils) (.t 4))⟩ :: q37_4
abbrev q37_6 : List RP := ⟨(some 4), none, true, (.ld false 1 (.t 3))⟩ :: q37_5
abbrev q37_7 : List RP := ⟨(some 3), none, false, (.fa 0 (.t 1))⟩ :: q37_6
abbrev q37_8 : List RP := ⟨none, none, false, (.st 1 (.t 10) (.t 9))⟩ :: []
abbrev q37_9 : List RP := ⟨(some 10), none, false, (.fa 1 (.t 1))⟩ :: q37_8
abbrev q37_10 : List RP := ⟨(some 9), none, false, (.app 1 8 [(.int .i64 0)] (.c .nils) (.t 8))⟩ :: q37_9
abbrev q37_11 : List RP := ⟨(some 8), none, true, (.ld false 1 (.t 7))⟩ :: q37_10
abbrev q37_12 : List RP := ⟨(some 7), none, false, (.fa 1 (.t 1))⟩ :: q37_11
abbrev q37_13 : List RP := ⟨none, none, false, (.st 4 (.t 2) (.t 11))⟩ :: []
abbrev q37_14 : List RP := ⟨(some 11), none, false, (.ld true 4 (.t 1))⟩ :: q37_13
abbrev q37_15 : RQ := (.seq (.reg q37_14) .ret)
abbrev q37_16 : RQ := (.seq (.reg q37_12) q37_15)
abbrev q37_17 : RQ := (.seq (.reg q37_7) q37_16)
abbrev q37 : RQ := (.seq (.reg q37_2) q37_17)
theorem l37 : ∃ c, f37.body = some c ∧ liteC prog f37.ntmps c = some q37 := ⟨_, rfl, by kernel_rfl⟩
theorem e37 : prog.funcs[37]? = some f37 := by kernel_rfl
theorem r37 : mapO (resOf prog) f37.results.toList = some [(.c 2 true 4)] := by kernel_rfl
theorem n37 : f37.ntmps = 12 := rfl

abbrev q38_1 : List RP := ⟨(some 4), none, false, (.mv (.c (.int .i64 0)))⟩ :: []
abbrev q38_2 : List RP := ⟨(some 3), none, false, (.box (.t 1))⟩ :: q38_1
abbrev q38_3 : List RP := ⟨(some 2), none, false, (.box (.t 0))⟩ :: q38_2
abbrev q38_4 : List RP := ⟨(some 7), none, false, (.not (.t 6))⟩ :: []
abbrev q38_5 : List RP := ⟨(some 6), none, false, (.cal 42 [(.t 5)])⟩ :: q38_4
abbrev q38_6 : List RP := ⟨(some 5), none, true, (.ld true 8 (.t 2))⟩ :: q38_5
abbrev q38_7 : List RP := ⟨(some 4), none, false, (.mv (.c (.int .i64 70)))⟩ :: []
abbrev q38_8 : RQ := (.seq (.reg q38_7) .ret)
abbrev q38_9 : RQ := (.cond (.t 7) q38_8 .skip)
abbrev q38_10 : List RP := ⟨(some 11), none, false, (.not (.t 10))⟩ :: []
abbrev q38_11 : List RP := ⟨(some 10), none, false, (.cal 43 [(.t 8), (.t 9)])⟩ :: q38_10
abbrev q38_12 : List RP := ⟨(some 9), none, true, (.ld true 4 (.t 3))⟩ :: q38_11
abbrev q38_13 : List RP := ⟨(some 8), none, true, (.ld true 8 (.t 2))⟩ :: q38_12
abbrev q38_14 : List RP := ⟨(some 4), none, false, (.mv (.c (.int .i64 8)))⟩ :: []
abbrev q38_15 : RQ := (.seq (.reg q38_14) .ret)
abbrev q38_16 : RQ := (.cond (.t 11) q38_15 .skip)
abbrev q38_17 : List RP := ⟨(some 4), none, false, (.mv (.c (.int .i64 0)))⟩ :: []
abbrev q38_18 : RQ := (.seq (.reg q38_17) .ret)
abbrev q38_19 : RQ := (.seq (.seq (.reg q38_13) q38_16) q38_18)
abbrev q38_20 : RQ := (.seq (.seq (.reg q38_6) q38_9) q38_19)
abbrev q38 : RQ := (.seq (.reg q38_3) q38_20)
theorem l38 : ∃ c, f38.body = some c ∧ liteC prog f38.ntmps c = some q38 := ⟨_, rfl, by kernel_rfl⟩
theorem e38 : prog.funcs[38]? = some f38 := by kernel_rfl
theorem r38 : mapO (resOf prog) f38.results.toList = some [(.t 4)] := by kernel_rfl
theorem n38 : f38.ntmps = 12 := rfl

abbrev q39_1 : List RP := ⟨(some 4), none, false, (.mv (.c (.bool false)))⟩ :: []
abbrev q39_2 : List RP := ⟨(some 3), none, false, (.box (.t 1))⟩ :: q39_1
abbrev q39_3 : List RP := ⟨(some 2), none, false, (.box (.t 0))⟩ :: q39_2
abbrev q39_4 : List RP := ⟨(some 4), none, false, (.mv (.t 37))⟩ :: []
abbrev q39_5 : List RP := ⟨(some 37), none, false, (.pick (.t 31) (.t 36) (.c (.bool false)))⟩ :: q39_4
abbrev q39_6 : List RP := ⟨(some 36), (some (31, true)), false, (.bin .eql (.t 33) (.t 35))⟩ :: q39_5
abbrev q39_7 : List RP := ⟨(some 35), (some (31, true)), false, (.ld false 1 (.t 34))⟩ :: q39_6
abbrev q39_8 : List RP := ⟨(some 34), (some (31, true)), false, (.fa 17 (.t 3))⟩ :: q39_7
abbrev q39_9 : List RP := ⟨(some 33), (some (31, true)), false, (.ld false 1 (.t 32))⟩ :: q39_8
abbrev q39_10 : List RP := ⟨(some 32), (some (31, true)), false, (.fa 17 (.t 2))⟩ :: q39_9
abbrev q39_11 : List RP := ⟨(some 31), none, false, (.mv (.t 30))⟩ :: q39_10
abbrev q39_12 : List RP := ⟨(some 30), none, false, (.pick (.t 24) (.t 29) (.c (.bool false)))⟩ :: q39_11
abbrev q39_13 : List RP := ⟨(some 29), (some (24, true)), false, (.eqv false [(0, (.i .i64)), (1, (.i .i64)), (2, (.i .i64)), (3, (.i .i64)), (4, (.i .i64)), (5, (.i .i64))] (.t 26) (.t 28))⟩ :: q39_12
abbrev q39_14 : List RP := ⟨(some 28), (some (24, true)), false, (.ld true 6 (.t 27))⟩ :: q39_13
abbrev q39_15 : List RP := ⟨(some 27), (some (24, true)), false, (.fa 11 (.t 3))⟩ :: q39_14
abbrev q39_16 : List RP := ⟨(some 26), (some (24, true)), false, (.ld true 6 (.t 25))⟩ :: q39_15
abbrev q39_17 : List RP := ⟨(some 25), (some (24, true)), false, (.fa 11 (.t 2))⟩ :: q39_16
abbrev q39_18 : List RP := ⟨(some 24), none, false, (.mv (.t 23))⟩ :: q39_17
abbrev q39_19 : List RP := ⟨(some 23), none, false, (.pick (.t 17) (.t 22) (.c (.bool false)))⟩ :: q39_18
abbrev q39_20 : List RP := ⟨(some 22), (some (17, true)), false, (.eqv false [(0, (.i .i64)), (1, (.i .i64)), (2, (.i .i64)), (3, (.i .u8)), (4, (.i .u64)), (5, (.i .u64))] (.t 19) (.t 21))⟩ :: q39_19
abbrev q39_21 : List RP := ⟨(some 21), (some (17, true)), false, (.ld true 6 (.t 20))⟩ :: q39_20
abbrev q39_22 : List RP := ⟨(some 20), (some (17, true)), false, (.fa 5 (.t 3))⟩ :: q39_21
abbrev q39_23 : List RP := ⟨(some 19), (some (17, true)), false, (.ld true 6 (.t 18))⟩ :: q39_22
abbrev q39_24 : List RP := ⟨(some 18), (some (17, true)), false, (.fa 5 (.t 2))⟩ :: q39_23
abbrev q39_25 : List RP := ⟨(some 17), none, false, (.mv (.t 16))⟩ :: q39_24
abbrev q39_26 : List RP := ⟨(some 16), none, false, (.pick (.t 10) (.t 15) (.c (.bool false)))⟩ :: q39_25
abbrev q39_27 : List RP := ⟨(some 15), (some (10, true)), false, (.bin .eql (.t 12) (.t 14))⟩ :: q39_26
abbrev q39_28 : List RP := ⟨(some 14), (some (10, true)), false, (.ld false 1 (.t 13))⟩ :: q39_27
abbrev q39_29 : List RP := ⟨(some 13), (some (10, true)), false, (.fa 4 (.t 3))⟩ :: q39_28
abbrev q39_30 : List RP := ⟨(some 12), (some (10, true)), false, (.ld false 1 (.t 11))⟩ :: q39_29
abbrev q39_31 : List RP := ⟨(some 11), (some (10, true)), false, (.fa 4 (.t 2))⟩ :: q39_30
abbrev q39_32 : List RP := ⟨(some 10), none, false, (.mv (.t 9))⟩ :: q39_31
abbrev q39_33 : List RP := ⟨(some 9), none, false, (.cal 41 [(.t 6), (.t 8)])⟩ :: q39_32
abbrev q39_34 : List RP := ⟨(some 8), none, true, (.ld true 4 (.t 7))⟩ :: q39_33
abbrev q39_35 : List RP := ⟨(some 7), none, false, (.fa 0 (.t 3))⟩ :: q39_34
abbrev q39_36 : List RP := ⟨(some 6), none, true, (.ld true 4 (.t 5))⟩ :: q39_35
abbrev q39_37 : List RP := ⟨(some 5), none, false, (.fa 0 (.t 2))⟩ :: q39_36
abbrev q39_38 : RQ := (.seq (.reg q39_37) .ret)
abbrev q39 : RQ := (.seq (.reg q39_3) q39_38)
theorem l39 : ∃ c, f39.body = some c ∧ liteC prog f39.ntmps c = some q39 := ⟨_, rfl, by kernel_rfl⟩
theorem e39 : prog.funcs[39]? = some f39 := by kernel_rfl
theorem r39 : mapO (resOf prog) f39.results.toList = some [(.t 4)] := by kernel_rfl
theorem n39 : f39.ntmps = 38 := rfl

abbrev q40_1 : List RP := ⟨(some 6), none, false, (.alloc [.nils, .nils, (.int .u64 0), (.int .i64 0), (.int .i64 0), (.int .i64 0), (.int .i64 0), (.int .i64 0), (.int .u8 0), (.int .u64 0), (.int .u64 0), (.int .i64 0), (.int .i64 0), (.int .i64 0), (.int .i64 0), (.int .i64 0), (.int .i64 0), (.int .i64 0)])⟩ :: []
abbrev q40_2 : List RP := ⟨(some 5), none, false, (.box (.t 2))⟩ :: q40_1
abbrev q40_3 : List RP := ⟨(some 4), none, false, (.box (.t 1))⟩ :: q40_2
abbrev q40_4 : List RP := ⟨(some 3), none, false, (.box (.t 0))⟩ :: q40_3
abbrev q40_5 : List RP := ⟨none, none, false, (.st 18 (.t 7) (.t 8))⟩ :: []
abbrev q40_6 : List RP := ⟨(some 7), none, false, (.alloc [.nils, .nils, (.int .u64 0), (.int .i64 0), (.int .i64 0), (.int .i64 0), (.int .i64 0), (.int .i64 0), (.int .u8 0), (.int .u64 0), (.int .u64 0), (.int .i64 0), (.int .i64 0), (.int .i64 0), (.int .i64 0), (.int .i64 0), (.int .i64 0), (.int .i64 0)])⟩ :: q40_5
abbrev q40_7 : List RP := ⟨(some 8), none, false, (.build [.nils, .nils, (.int .u64 0), (.int .i64 0), (.int .i64 0), (.int .i64 0), (.int .i64 0), (.int .i64 0), (.int .u8 0), (.int .u64 0), (.int .u64 0), (.int .i64 0), (.int .i64 0), (.int .i64 0), (.int .i64 0), (.int .i64 0), (.int .i64 0), (.int .i64 0)] [])⟩ :: q40_6
abbrev q40_8 : List RP := ⟨(some 11), none, false, (.bin .rem (.t 10) (.c (.int .u8 7)))⟩ :: []
abbrev q40_9 : List RP := ⟨(some 10), none, false, (.ld false 1 (.t 9))⟩ :: q40_8
abbrev q40_10 : List RP := ⟨(some 9), none, false, (.fa 0 (.t 5))⟩ :: q40_9
abbrev q40_11 : List RP := ⟨(some 12), none, false, (.mv (.t 13))⟩ :: []
abbrev q40_12 : List RP := ⟨(some 13), none, false, (.bin .eql (.t 11) (.c (.int .u8 0)))⟩ :: q40_11
abbrev q40_13 : List RP := ⟨none, none, false, (.st 1 (.t 29) (.t 26))⟩ :: []
abbrev q40_14 : List RP := ⟨(some 29), none, false, (.fa 17 (.t 7))⟩ :: q40_13
abbrev q40_15 : List RP := ⟨none, none, false, (.st 1 (.t 28) (.t 25))⟩ :: q40_14
abbrev q40_16 : List RP := ⟨(some 28), none, false, (.fa 4 (.t 7))⟩ :: q40_15
abbrev q40_17 : List RP := ⟨none, none, false, (.st 4 (.t 27) (.t 24))⟩ :: q40_16
abbrev q40_18 : List RP := ⟨(some 27), none, false, (.fa 0 (.t 7))⟩ :: q40_17
abbrev q40_19 : List RP := ⟨(some 26), none, false, (.ext (.t 14) 2)⟩ :: q40_18
abbrev q40_20 : List RP := ⟨(some 25), none, false, (.ext (.t 14) 1)⟩ :: q40_19
abbrev q40_21 : List RP := ⟨(some 24), none, false, (.ext (.t 14) 0)⟩ :: q40_20
abbrev q40_22 : List RP := ⟨(some 14), none, false, (.mv (.t 23))⟩ :: q40_21
abbrev q40_23 : List RP := ⟨(some 23), none, false, (.cal 61 [(.t 15), (.t 16), (.t 18), (.t 20), (.t 22)])⟩ :: q40_22
abbrev q40_24 : List RP := ⟨(some 22), none, true, (.ld false 1 (.t 21))⟩ :: q40_23
abbrev q40_25 : List RP := ⟨(some 21), none, false, (.fa 4 (.t 5))⟩ :: q40_24
abbrev q40_26 : List RP := ⟨(some 20), none, true, (.ld false 1 (.t 19))⟩ :: q40_25
abbrev q40_27 : List RP := ⟨(some 19), none, false, (.fa 2 (.t 5))⟩ :: q40_26
abbrev q40_28 : List RP := ⟨(some 18), none, true, (.ld false 1 (.t 17))⟩ :: q40_27
abbrev q40_29 : List RP := ⟨(some 17), none, false, (.fa 1 (.t 5))⟩ :: q40_28
abbrev q40_30 : List RP := ⟨(some 16), none, true, (.ld true 4 (.t 4))⟩ :: q40_29
abbrev q40_31 : List RP := ⟨(some 15), none, true, (.ld true 8 (.t 3))⟩ :: q40_30
abbrev q40_32 : RQ := (.reg q40_31)
abbrev q40_33 : List RP := ⟨(some 30), none, false, (.mv (.t 31))⟩ :: []
abbrev q40_34 : List RP := ⟨(some 31), none, false, (.bin .eql (.t 11) (.c (.int .u8 1)))⟩ :: q40_33
abbrev q40_35 : List RP := ⟨none, none, false, (.st 1 (.t 41) (.t 39))⟩ :: []
abbrev q40_36 : List RP := ⟨(some 41), none, false, (.fa 17 (.t 7))⟩ :: q40_35
abbrev q40_37 : List RP := ⟨none, none, false, (.st 4 (.t 40) (.t 38))⟩ :: q40_36
abbrev q40_38 : List RP := ⟨(some 40), none, false, (.fa 0 (.t 7))⟩ :: q40_37
abbrev q40_39 : List RP := ⟨(some 39), none, false, (.ext (.t 32) 1)⟩ :: q40_38
abbrev q40_40 : List RP := ⟨(some 38), none, false, (.ext (.t 32) 0)⟩ :: q40_39
abbrev q40_41 : List RP := ⟨(some 32), none, false, (.mv (.t 37))⟩ :: q40_40
abbrev q40_42 : List RP := ⟨(some 37), none, false, (.cal 62 [(.t 33), (.t 34), (.t 36)])⟩ :: q40_41
abbrev q40_43 : List RP := ⟨(some 36), none, true, (.ld false 1 (.t 35))⟩ :: q40_42
abbrev q40_44 : List RP := ⟨(some 35), none, false, (.fa 3 (.t 5))⟩ :: q40_43
abbrev q40_45 : List RP := ⟨(some 34), none, true, (.ld true 4 (.t 4))⟩ :: q40_44
abbrev q40_46 : List RP := ⟨(some 33), none, true, (.ld true 8 (.t 3))⟩ :: q40_45
abbrev q40_47 : RQ := (.reg q40_46)
abbrev q40_48 : List RP := ⟨(some 42), none, false, (.mv (.t 43))⟩ :: []
abbrev q40_49 : List RP := ⟨(some 43), none, false, (.bin .eql (.t 11) (.c (.int .u8 2)))⟩ :: q40_48
abbrev q40_50 : List RP := ⟨none, none, false, (.st 1 (.t 53) (.t 50))⟩ :: []
abbrev q40_51 : List RP := ⟨(some 53), none, false, (.fa 17 (.t 7))⟩ :: q40_50
abbrev q40_52 : List RP := ⟨none, none, false, (.st 1 (.t 52) (.t 49))⟩ :: q40_51
abbrev q40_53 : List RP := ⟨(some 52), none, false, (.fa 4 (.t 7))⟩ :: q40_52
abbrev q40_54 : List RP := ⟨none, none, false, (.st 4 (.t 51) (.t 48))⟩ :: q40_53
abbrev q40_55 : List RP := ⟨(some 51), none, false, (.fa 0 (.t 7))⟩ :: q40_54
abbrev q40_56 : List RP := ⟨(some 50), none, false, (.ext (.t 44) 2)⟩ :: q40_55
abbrev q40_57 : List RP := ⟨(some 49), none, false, (.ext (.t 44) 1)⟩ :: q40_56
abbrev q40_58 : List RP := ⟨(some 48), none, false, (.ext (.t 44) 0)⟩ :: q40_57
abbrev q40_59 : List RP := ⟨(some 44), none, false, (.mv (.t 47))⟩ :: q40_58
abbrev q40_60 : List RP := ⟨(some 47), none, false, (.cal 63 [(.t 45), (.t 46)])⟩ :: q40_59
abbrev q40_61 : List RP := ⟨(some 46), none, true, (.ld true 4 (.t 4))⟩ :: q40_60
abbrev q40_62 : List RP := ⟨(some 45), none, true, (.ld true 8 (.t 3))⟩ :: q40_61
abbrev q40_63 : RQ := (.reg q40_62)
abbrev q40_64 : List RP := ⟨(some 54), none, false, (.mv (.t 55))⟩ :: []
abbrev q40_65 : List RP := ⟨(some 55), none, false, (.bin .eql (.t 11) (.c (.int .u8 3)))⟩ :: q40_64
abbrev q40_66 : List RP := ⟨none, none, false, (.st 1 (.t 65) (.t 63))⟩ :: []
abbrev q40_67 : List RP := ⟨(some 65), none, false, (.fa 17 (.t 7))⟩ :: q40_66
abbrev q40_68 : List RP := ⟨none, none, false, (.st 4 (.t 64) (.t 62))⟩ :: q40_67
abbrev q40_69 : List RP := ⟨(some 64), none, false, (.fa 0 (.t 7))⟩ :: q40_68
abbrev q40_70 : List RP := ⟨(some 63), none, false, (.ext (.t 56) 1)⟩ :: q40_69
abbrev q40_71 : List RP := ⟨(some 62), none, false, (.ext (.t 56) 0)⟩ :: q40_70
abbrev q40_72 : List RP := ⟨(some 56), none, false, (.mv (.t 61))⟩ :: q40_71
abbrev q40_73 : List RP := ⟨(some 61), none, false, (.cal 64 [(.t 57), (.t 58), (.t 60)])⟩ :: q40_72
abbrev q40_74 : List RP := ⟨(some 60), none, true, (.ld false 1 (.t 59))⟩ :: q40_73
abbrev q40_75 : List RP := ⟨(some 59), none, false, (.fa 3 (.t 5))⟩ :: q40_74
abbrev q40_76 : List RP := ⟨(some 58), none, true, (.ld true 4 (.t 4))⟩ :: q40_75
abbrev q40_77 : List RP := ⟨(some 57), none, true, (.ld true 8 (.t 3))⟩ :: q40_76
abbrev q40_78 : RQ := (.reg q40_77)
abbrev q40_79 : List RP := ⟨(some 66), none, false, (.mv (.t 67))⟩ :: []
abbrev q40_80 : List RP := ⟨(some 67), none, false, (.bin .eql (.t 11) (.c (.int .u8 4)))⟩ :: q40_79
abbrev q40_81 : List RP := ⟨none, none, false, (.st 1 (.t 79) (.t 77))⟩ :: []
abbrev q40_82 : List RP := ⟨(some 79), none, false, (.fa 17 (.t 7))⟩ :: q40_81
abbrev q40_83 : List RP := ⟨none, none, false, (.st 4 (.t 78) (.t 76))⟩ :: q40_82
abbrev q40_84 : List RP := ⟨(some 78), none, false, (.fa 0 (.t 7))⟩ :: q40_83
abbrev q40_85 : List RP := ⟨(some 77), none, false, (.ext (.t 68) 1)⟩ :: q40_84
abbrev q40_86 : List RP := ⟨(some 76), none, false, (.ext (.t 68) 0)⟩ :: q40_85
abbrev q40_87 : List RP := ⟨(some 68), none, false, (.mv (.t 75))⟩ :: q40_86
abbrev q40_88 : List RP := ⟨(some 75), none, false, (.cal 65 [(.t 69), (.t 70), (.t 72), (.t 74)])⟩ :: q40_87
abbrev q40_89 : List RP := ⟨(some 74), none, true, (.ld false 1 (.t 73))⟩ :: q40_88
abbrev q40_90 : List RP := ⟨(some 73), none, false, (.fa 4 (.t 5))⟩ :: q40_89
abbrev q40_91 : List RP := ⟨(some 72), none, true, (.ld false 1 (.t 71))⟩ :: q40_90
abbrev q40_92 : List RP := ⟨(some 71), none, false, (.fa 3 (.t 5))⟩ :: q40_91
abbrev q40_93 : List RP := ⟨(some 70), none, true, (.ld true 4 (.t 4))⟩ :: q40_92
abbrev q40_94 : List RP := ⟨(some 69), none, true, (.ld true 8 (.t 3))⟩ :: q40_93
abbrev q40_95 : RQ := (.reg q40_94)
abbrev q40_96 : List RP := ⟨(some 80), none, false, (.mv (.t 81))⟩ :: []
abbrev q40_97 : List RP := ⟨(some 81), none, false, (.bin .eql (.t 11) (.c (.int .u8 5)))⟩ :: q40_96
abbrev q40_98 : List RP := ⟨none, none, false, (.st 1 (.t 91) (.t 89))⟩ :: []
abbrev q40_99 : List RP := ⟨(some 91), none, false, (.fa 17 (.t 7))⟩ :: q40_98
abbrev q40_100 : List RP := ⟨none, none, false, (.st 6 (.t 90) (.t 88))⟩ :: q40_99
abbrev q40_101 : List RP := ⟨(some 90), none, false, (.fa 5 (.t 7))⟩ :: q40_100
abbrev q40_102 : List RP := ⟨(some 89), none, false, (.ext (.t 82) 1)⟩ :: q40_101
abbrev q40_103 : List RP := ⟨(some 88), none, false, (.ext (.t 82) 0)⟩ :: q40_102
abbrev q40_104 : List RP := ⟨(some 82), none, false, (.mv (.t 87))⟩ :: q40_103
abbrev q40_105 : List RP := ⟨(some 87), none, false, (.cal 66 [(.t 83), (.t 84), (.t 86)])⟩ :: q40_104
abbrev q40_106 : List RP := ⟨(some 86), none, true, (.ld false 1 (.t 85))⟩ :: q40_105
abbrev q40_107 : List RP := ⟨(some 85), none, false, (.fa 3 (.t 5))⟩ :: q40_106
abbrev q40_108 : List RP := ⟨(some 84), none, true, (.ld true 4 (.t 4))⟩ :: q40_107
abbrev q40_109 : List RP := ⟨(some 83), none, true, (.ld true 8 (.t 3))⟩ :: q40_108
abbrev q40_110 : RQ := (.reg q40_109)
abbrev q40_111 : List RP := ⟨(some 92), none, false, (.mv (.t 93))⟩ :: []
abbrev q40_112 : List RP := ⟨(some 93), none, false, (.bin .eql (.t 11) (.c (.int .u8 6)))⟩ :: q40_111
abbrev q40_113 : List RP := ⟨none, none, false, (.st 1 (.t 101) (.t 99))⟩ :: []
abbrev q40_114 : List RP := ⟨(some 101), none, false, (.fa 17 (.t 7))⟩ :: q40_113
abbrev q40_115 : List RP := ⟨none, none, false, (.st 6 (.t 100) (.t 98))⟩ :: q40_114
abbrev q40_116 : List RP := ⟨(some 100), none, false, (.fa 11 (.t 7))⟩ :: q40_115
abbrev q40_117 : List RP := ⟨(some 99), none, false, (.ext (.t 94) 1)⟩ :: q40_116
abbrev q40_118 : List RP := ⟨(some 98), none, false, (.ext (.t 94) 0)⟩ :: q40_117
abbrev q40_119 : List RP := ⟨(some 94), none, false, (.mv (.t 97))⟩ :: q40_118
abbrev q40_120 : List RP := ⟨(some 97), none, false, (.cal 67 [(.t 95), (.t 96)])⟩ :: q40_119
abbrev q40_121 : List RP := ⟨(some 96), none, true, (.ld true 4 (.t 4))⟩ :: q40_120
abbrev q40_122 : List RP := ⟨(some 95), none, true, (.ld true 8 (.t 3))⟩ :: q40_121
abbrev q40_123 : RQ := (.reg q40_122)
abbrev q40_124 : RQ := (.cond (.t 92) q40_123 .skip)
abbrev q40_125 : RQ := (.seq (.reg q40_112) q40_124)
abbrev q40_126 : RQ := (.cond (.t 80) q40_110 q40_125)
abbrev q40_127 : RQ := (.seq (.reg q40_97) q40_126)
abbrev q40_128 : RQ := (.cond (.t 66) q40_95 q40_127)
abbrev q40_129 : RQ := (.seq (.reg q40_80) q40_128)
abbrev q40_130 : RQ := (.cond (.t 54) q40_78 q40_129)
abbrev q40_131 : RQ := (.seq (.reg q40_65) q40_130)
abbrev q40_132 : RQ := (.cond (.t 42) q40_63 q40_131)
abbrev q40_133 : RQ := (.seq (.reg q40_49) q40_132)
abbrev q40_134 : RQ := (.cond (.t 30) q40_47 q40_133)
abbrev q40_135 : RQ := (.seq (.reg q40_34) q40_134)
abbrev q40_136 : RQ := (.cond (.t 12) q40_32 q40_135)
abbrev q40_137 : RQ := (.block 0 (.seq (.reg q40_12) q40_136))
abbrev q40_138 : List RP := ⟨none, none, false, (.st 18 (.t 6) (.t 102))⟩ :: []
abbrev q40_139 : List RP := ⟨(some 102), none, false, (.ld true 18 (.t 7))⟩ :: q40_138
abbrev q40_140 : RQ := (.seq (.reg q40_139) .ret)
abbrev q40_141 : RQ := (.seq (.seq (.reg q40_10) q40_137) q40_140)
abbrev q40_142 : RQ := (.seq (.reg q40_7) q40_141)
abbrev q40 : RQ := (.seq (.reg q40_4) q40_142)
theorem l40 : ∃ c, f40.body = some c ∧ liteC prog f40.ntmps c = some q40 := ⟨_, rfl, by kernel_rfl⟩
theorem e40 : prog.funcs[40]? = some f40 := by kernel_rfl
theorem r40 : mapO (resOf prog) f40.results.toList = some [(.c 6 true 18)] := by kernel_rfl
theorem n40 : f40.ntmps = 103 := rfl

abbrev q41_1 : List RP := ⟨(some 4), none, false, (.mv (.c (.bool false)))⟩ :: []
abbrev q41_2 : List RP := ⟨(some 3), none, false, (.box (.t 1))⟩ :: q41_1
abbrev q41_3 : List RP := ⟨(some 2), none, false, (.box (.t 0))⟩ :: q41_2
abbrev q41_4 : List RP := ⟨(some 27), none, false, (.pick (.t 21) (.c (.bool true)) (.t 26))⟩ :: []
abbrev q41_5 : List RP := ⟨(some 26), (some (21, false)), false, (.eqv true [(0, (.i .u64)), (1, (.i .i64))] (.t 23) (.t 25))⟩ :: q41_4
abbrev q41_6 : List RP := ⟨(some 25), (some (21, false)), false, (.ld true 2 (.t 24))⟩ :: q41_5
abbrev q41_7 : List RP := ⟨(some 24), (some (21, false)), false, (.fa 2 (.t 3))⟩ :: q41_6
abbrev q41_8 : List RP := ⟨(some 23), (some (21, false)), false, (.ld true 2 (.t 22))⟩ :: q41_7
abbrev q41_9 : List RP := ⟨(some 22), (some (21, false)), false, (.fa 2 (.t 2))⟩ :: q41_8
abbrev q41_10 : List RP := ⟨(some 21), none, false, (.mv (.t 20))⟩ :: q41_9
abbrev q41_11 : List RP := ⟨(some 20), none, false, (.pick (.t 13) (.c (.bool true)) (.t 19))⟩ :: q41_10
abbrev q41_12 : List RP := ⟨(some 19), (some (13, false)), false, (.not (.t 18))⟩ :: q41_11
abbrev q41_13 : List RP := ⟨(some 18), (some (13, false)), false, (.cal 68 [(.t 15), (.t 17)])⟩ :: q41_12
abbrev q41_14 : List RP := ⟨(some 17), (some (13, false)), true, (.ld false 1 (.t 16))⟩ :: q41_13
abbrev q41_15 : List RP := ⟨(some 16), (some (13, false)), false, (.fa 1 (.t 3))⟩ :: q41_14
abbrev q41_16 : List RP := ⟨(some 15), (some (13, false)), true, (.ld false 1 (.t 14))⟩ :: q41_15
abbrev q41_17 : List RP := ⟨(some 14), (some (13, false)), false, (.fa 1 (.t 2))⟩ :: q41_16
abbrev q41_18 : List RP := ⟨(some 13), none, false, (.mv (.t 12))⟩ :: q41_17
abbrev q41_19 : List RP := ⟨(some 12), none, false, (.bin .neq (.t 8) (.t 11))⟩ :: q41_18
abbrev q41_20 : List RP := ⟨(some 11), none, false, (.len (.t 10))⟩ :: q41_19
abbrev q41_21 : List RP := ⟨(some 10), none, false, (.ld false 1 (.t 9))⟩ :: q41_20
abbrev q41_22 : List RP := ⟨(some 9), none, false, (.fa 0 (.t 3))⟩ :: q41_21
abbrev q41_23 : List RP := ⟨(some 8), none, false, (.len (.t 7))⟩ :: q41_22
abbrev q41_24 : List RP := ⟨(some 7), none, false, (.ld false 1 (.t 6))⟩ :: q41_23
abbrev q41_25 : List RP := ⟨(some 6), none, false, (.fa 0 (.t 2))⟩ :: q41_24
abbrev q41_26 : List RP := ⟨(some 4), none, false, (.mv (.c (.bool false)))⟩ :: []
abbrev q41_27 : RQ := (.seq (.reg q41_26) .ret)
abbrev q41_28 : RQ := (.cond (.t 27) q41_27 .skip)
abbrev q41_29 : List RP := ⟨(some 5), none, false, (.mv (.c (.int .i64 0)))⟩ :: []
abbrev q41_30 : List RP := ⟨(some 32), none, false, (.bin .lss (.t 28) (.t 31))⟩ :: []
abbrev q41_31 : List RP := ⟨(some 31), none, false, (.len (.t 30))⟩ :: q41_30
abbrev q41_32 : List RP := ⟨(some 30), none, false, (.ld false 1 (.t 29))⟩ :: q41_31
abbrev q41_33 : List RP := ⟨(some 29), none, false, (.fa 0 (.t 2))⟩ :: q41_32
abbrev q41_34 : List RP := ⟨(some 28), none, false, (.mv (.t 5))⟩ :: q41_33
abbrev q41_35 : RQ := (.exit 0)
abbrev q41_36 : RQ := (.cond (.t 32) .skip q41_35)
abbrev q41_37 : List (Bool × RP) := (false, ⟨(some 45), none, false, (.eqv true [(0, (.i .i64)), (1, (.i .i64)), (2, (.i .i64)), (3, (.i .u8)), (4, (.i .u64)), (5, (.i .u64))] (.t 39) (.t 44))⟩) :: []
abbrev q41_38 : List (Bool × RP) := (false, ⟨(some 44), none, false, (.ld true 6 (.t 43))⟩) :: q41_37
abbrev q41_39 : List (Bool × RP) := (false, ⟨(some 43), none, false, (.ias 6 (.t 41) (.t 42))⟩) :: q41_38
abbrev q41_40 : List (Bool × RP) := (false, ⟨(some 42), none, false, (.mv (.t 5))⟩) :: q41_39
abbrev q41_41 : List (Bool × RP) := (false, ⟨(some 41), none, false, (.ld false 1 (.t 40))⟩) :: q41_40
abbrev q41_42 : List (Bool × RP) := (false, ⟨(some 40), none, false, (.fa 0 (.t 3))⟩) :: q41_41
abbrev q41_43 : List (Bool × RP) := (false, ⟨(some 39), none, false, (.ld true 6 (.t 38))⟩) :: q41_42
abbrev q41_44 : List (Bool × RP) := (false, ⟨(some 38), none, false, (.ias 6 (.t 36) (.t 37))⟩) :: q41_43
abbrev q41_45 : List (Bool × RP) := (false, ⟨(some 37), none, false, (.mv (.t 5))⟩) :: q41_44
abbrev q41_46 : List (Bool × RP) := (false, ⟨(some 36), none, false, (.ld false 1 (.t 35))⟩) :: q41_45
abbrev q41_47 : List (Bool × RP) := (false, ⟨(some 35), none, false, (.fa 0 (.t 2))⟩) :: q41_46
abbrev q41_48 : List RP := ⟨(some 4), none, false, (.mv (.c (.bool false)))⟩ :: []
abbrev q41_49 : RQ := (.seq (.reg q41_48) .ret)
abbrev q41_50 : RQ := (.cond (.t 45) q41_49 .skip)
abbrev q41_51 : List RP := ⟨(some 5), none, false, (.mv (.t 34))⟩ :: []
abbrev q41_52 : List RP := ⟨(some 34), none, false, (.bin .add (.t 33) (.c (.int .i64 1)))⟩ :: q41_51
abbrev q41_53 : List RP := ⟨(some 33), none, false, (.mv (.t 5))⟩ :: q41_52
abbrev q41_54 : RQ := (.reg q41_53)
abbrev q41_55 : RQ := (.seq (.block 1 (.seq (.drw q41_47 []) q41_50)) q41_54)
abbrev q41_56 : RQ := (.seq (.seq (.reg q41_34) q41_36) q41_55)
abbrev q41_57 : RQ := (.block 0 (.loop q41_56))
abbrev q41_58 : List RP := ⟨(some 4), none, false, (.mv (.c (.bool true)))⟩ :: []
abbrev q41_59 : RQ := (.seq (.reg q41_58) .ret)
abbrev q41_60 : RQ := (.seq (.seq (.reg q41_29) q41_57) q41_59)
abbrev q41_61 : RQ := (.seq (.seq (.reg q41_25) q41_28) q41_60)
abbrev q41 : RQ := (.seq (.reg q41_3) q41_61)
theorem l41 : ∃ c, f41.body = some c ∧ liteC prog f41.ntmps c = some q41 := ⟨_, rfl, by kernel_rfl⟩
theorem e41 : prog.funcs[41]? = some f41 := by kernel_rfl
theorem r41 : mapO (resOf prog) f41.results.toList = some [(.t 4)] := by kernel_rfl
theorem n41 : f41.ntmps = 46 := rfl

abbrev q42_1 : List RP := ⟨(some 2), none, false, (.mv (.c (.bool false)))⟩ :: []
abbrev q42_2 : List RP := ⟨(some 1), none, false, (.box (.t 0))⟩ :: q42_1
abbrev q42_3 : List RP := ⟨(some 21), none, false, (.pick (.t 15) (.c (.bool true)) (.t 20))⟩ :: []
abbrev q42_4 : List RP := ⟨(some 20), (some (15, false)), false, (.not (.t 19))⟩ :: q42_3
abbrev q42_5 : List RP := ⟨(some 19), (some (15, false)), false, (.cal 69 [(.t 18), (.c (.int .i64 3))])⟩ :: q42_4
abbrev q42_6 : List RP := ⟨(some 18), (some (15, false)), true, (.len (.t 17))⟩ :: q42_5
abbrev q42_7 : List RP := ⟨(some 17), (some (15, false)), false, (.ld false 1 (.t 16))⟩ :: q42_6
abbrev q42_8 : List RP := ⟨(some 16), (some (15, false)), false, (.fa 2 (.t 1))⟩ :: q42_7
abbrev q42_9 : List RP := ⟨(some 15), none, false, (.mv (.t 14))⟩ :: q42_8
abbrev q42_10 : List RP := ⟨(some 14), none, false, (.pick (.t 8) (.c (.bool true)) (.t 13))⟩ :: q42_9
abbrev q42_11 : List RP := ⟨(some 13), (some (8, false)), false, (.not (.t 12))⟩ :: q42_10
abbrev q42_12 : List RP := ⟨(some 12), (some (8, false)), false, (.cal 69 [(.t 11), (.c (.int .i64 3))])⟩ :: q42_11
abbrev q42_13 : List RP := ⟨(some 11), (some (8, false)), true, (.len (.t 10))⟩ :: q42_12
abbrev q42_14 : List RP := ⟨(some 10), (some (8, false)), false, (.ld false 1 (.t 9))⟩ :: q42_13
abbrev q42_15 : List RP := ⟨(some 9), (some (8, false)), false, (.fa 1 (.t 1))⟩ :: q42_14
abbrev q42_16 : List RP := ⟨(some 8), none, false, (.mv (.t 7))⟩ :: q42_15
abbrev q42_17 : List RP := ⟨(some 7), none, false, (.not (.t 6))⟩ :: q42_16
abbrev q42_18 : List RP := ⟨(some 6), none, false, (.cal 69 [(.t 5), (.c (.int .i64 3))])⟩ :: q42_17
abbrev q42_19 : List RP := ⟨(some 5), none, true, (.len (.t 4))⟩ :: q42_18
abbrev q42_20 : List RP := ⟨(some 4), none, false, (.ld false 1 (.t 3))⟩ :: q42_19
abbrev q42_21 : List RP := ⟨(some 3), none, false, (.fa 0 (.t 1))⟩ :: q42_20
abbrev q42_22 : List RP := ⟨(some 2), none, false, (.mv (.c (.bool false)))⟩ :: []
abbrev q42_23 : RQ := (.seq (.reg q42_22) .ret)
abbrev q42_24 : RQ := (.cond (.t 21) q42_23 .skip)
abbrev q42_25 : List RP := ⟨(some 2), none, false, (.mv (.t 44))⟩ :: []
abbrev q42_26 : List RP := ⟨(some 44), none, false, (.pick (.t 40) (.t 43) (.c (.bool false)))⟩ :: q42_25
abbrev q42_27 : List RP := ⟨(some 43), (some (40, true)), false, (.cal 69 [(.t 42), (.c (.int .i64 64))])⟩ :: q42_26
abbrev q42_28 : List RP := ⟨(some 42), (some (40, true)), true, (.ld false 1 (.t 41))⟩ :: q42_27
abbrev q42_29 : List RP := ⟨(some 41), (some (40, true)), false, (.fa 7 (.t 1))⟩ :: q42_28
abbrev q42_30 : List RP := ⟨(some 40), none, false, (.mv (.t 39))⟩ :: q42_29
abbrev q42_31 : List RP := ⟨(some 39), none, false, (.pick (.t 35) (.t 38) (.c (.bool false)))⟩ :: q42_30
abbrev q42_32 : List RP := ⟨(some 38), (some (35, true)), false, (.cal 69 [(.t 37), (.c (.int .i64 16))])⟩ :: q42_31
abbrev q42_33 : List RP := ⟨(some 37), (some (35, true)), true, (.ld false 1 (.t 36))⟩ :: q42_32
abbrev q42_34 : List RP := ⟨(some 36), (some (35, true)), false, (.fa 6 (.t 1))⟩ :: q42_33
abbrev q42_35 : List RP := ⟨(some 35), none, false, (.mv (.t 34))⟩ :: q42_34
abbrev q42_36 : List RP := ⟨(some 34), none, false, (.pick (.t 30) (.t 33) (.c (.bool false)))⟩ :: q42_35
abbrev q42_37 : List RP := ⟨(some 33), (some (30, true)), false, (.cal 69 [(.t 32), (.c (.int .i64 8))])⟩ :: q42_36
abbrev q42_38 : List RP := ⟨(some 32), (some (30, true)), true, (.ld false 1 (.t 31))⟩ :: q42_37
abbrev q42_39 : List RP := ⟨(some 31), (some (30, true)), false, (.fa 5 (.t 1))⟩ :: q42_38
abbrev q42_40 : List RP := ⟨(some 30), none, false, (.mv (.t 29))⟩ :: q42_39
abbrev q42_41 : List RP := ⟨(some 29), none, false, (.pick (.t 25) (.t 28) (.c (.bool false)))⟩ :: q42_40
abbrev q42_42 : List RP := ⟨(some 28), (some (25, true)), false, (.cal 69 [(.t 27), (.c (.int .i64 8))])⟩ :: q42_41
abbrev q42_43 : List RP := ⟨(some 27), (some (25, true)), true, (.ld false 1 (.t 26))⟩ :: q42_42
abbrev q42_44 : List RP := ⟨(some 26), (some (25, true)), false, (.fa 4 (.t 1))⟩ :: q42_43
abbrev q42_45 : List RP := ⟨(some 25), none, false, (.mv (.t 24))⟩ :: q42_44
abbrev q42_46 : List RP := ⟨(some 24), none, false, (.cal 69 [(.t 23), (.c (.int .i64 8))])⟩ :: q42_45
abbrev q42_47 : List RP := ⟨(some 23), none, true, (.ld false 1 (.t 22))⟩ :: q42_46
abbrev q42_48 : List RP := ⟨(some 22), none, false, (.fa 3 (.t 1))⟩ :: q42_47
abbrev q42_49 : RQ := (.seq (.reg q42_48) .ret)
abbrev q42_50 : RQ := (.seq (.seq (.reg q42_21) q42_24) q42_49)
abbrev q42 : RQ := (.seq (.reg q42_2) q42_50)
theorem l42 : ∃ c, f42.body = some c ∧ liteC prog f42.ntmps c = some q42 := ⟨_, rfl, by kernel_rfl⟩
theorem e42 : prog.funcs[42]? = some f42 := by kernel_rfl
theorem r42 : mapO (resOf prog) f42.results.toList = some [(.t 2)] := by kernel_rfl
theorem n42 : f42.ntmps = 45 := rfl

abbrev q43_1 : List RP := ⟨(some 4), none, false, (.mv (.c (.bool false)))⟩ :: []
abbrev q43_2 : List RP := ⟨(some 3), none, false, (.box (.t 1))⟩ :: q43_1
abbrev q43_3 : List RP := ⟨(some 2), none, false, (.box (.t 0))⟩ :: q43_2
abbrev q43_4 : List RP := ⟨(some 33), none, false, (.pick (.t 24) (.c (.bool true)) (.t 32))⟩ :: []
abbrev q43_5 : List RP := ⟨(some 32), (some (24, false)), false, (.bin .neq (.t 31) (.c (.int .i64 0)))⟩ :: q43_4
abbrev q43_6 : List RP := ⟨(some 31), (some (24, false)), false, (.cal 35 [(.t 26), (.t 28), (.t 30)])⟩ :: q43_5
abbrev q43_7 : List RP := ⟨(some 30), (some (24, false)), true, (.ld false 1 (.t 29))⟩ :: q43_6
abbrev q43_8 : List RP := ⟨(some 29), (some (24, false)), false, (.fa 6 (.t 2))⟩ :: q43_7
abbrev q43_9 : List RP := ⟨(some 28), (some (24, false)), true, (.ld false 1 (.t 27))⟩ :: q43_8
abbrev q43_10 : List RP := ⟨(some 27), (some (24, false)), false, (.fa 7 (.t 2))⟩ :: q43_9
abbrev q43_11 : List RP := ⟨(some 26), (some (24, false)), true, (.ld true 2 (.t 25))⟩ :: q43_10
abbrev q43_12 : List RP := ⟨(some 25), (some (24, false)), false, (.fa 2 (.t 3))⟩ :: q43_11
abbrev q43_13 : List RP := ⟨(some 24), none, false, (.mv (.t 23))⟩ :: q43_12
abbrev q43_14 : List RP := ⟨(some 23), none, false, (.pick (.t 16) (.c (.bool true)) (.t 22))⟩ :: q43_13
abbrev q43_15 : List RP := ⟨(some 22), (some (16, false)), false, (.bin .gtr (.t 19) (.t 21))⟩ :: q43_14
abbrev q43_16 : List RP := ⟨(some 21), (some (16, false)), false, (.ld false 1 (.t 20))⟩ :: q43_15
abbrev q43_17 : List RP := ⟨(some 20), (some (16, false)), false, (.fa 5 (.t 2))⟩ :: q43_16
abbrev q43_18 : List RP := ⟨(some 19), (some (16, false)), false, (.len (.t 18))⟩ :: q43_17
abbrev q43_19 : List RP := ⟨(some 18), (some (16, false)), false, (.ld false 1 (.t 17))⟩ :: q43_18
abbrev q43_20 : List RP := ⟨(some 17), (some (16, false)), false, (.fa 1 (.t 3))⟩ :: q43_19
abbrev q43_21 : List RP := ⟨(some 16), none, false, (.mv (.t 15))⟩ :: q43_20
abbrev q43_22 : List RP := ⟨(some 15), none, false, (.pick (.t 10) (.c (.bool true)) (.t 14))⟩ :: q43_21
abbrev q43_23 : List RP := ⟨(some 14), (some (10, false)), false, (.bin .gtr (.t 13) (.c (.int .i64 64)))⟩ :: q43_22
abbrev q43_24 : List RP := ⟨(some 13), (some (10, false)), false, (.len (.t 12))⟩ :: q43_23
abbrev q43_25 : List RP := ⟨(some 12), (some (10, false)), false, (.ld false 1 (.t 11))⟩ :: q43_24
abbrev q43_26 : List RP := ⟨(some 11), (some (10, false)), false, (.fa 0 (.t 3))⟩ :: q43_25
abbrev q43_27 : List RP := ⟨(some 10), none, false, (.mv (.t 9))⟩ :: q43_26
abbrev q43_28 : List RP := ⟨(some 9), none, false, (.not (.t 8))⟩ :: q43_27
abbrev q43_29 : List RP := ⟨(some 8), none, false, (.cal 42 [(.t 7)])⟩ :: q43_28
abbrev q43_30 : List RP := ⟨(some 7), none, true, (.ld true 8 (.t 2))⟩ :: q43_29
abbrev q43_31 : List RP := ⟨(some 4), none, false, (.mv (.c (.bool false)))⟩ :: []
abbrev q43_32 : RQ := (.seq (.reg q43_31) .ret)
abbrev q43_33 : RQ := (.cond (.t 33) q43_32 .skip)
abbrev q43_34 : List RP := ⟨(some 5), none, false, (.mv (.c (.int .i64 0)))⟩ :: []
abbrev q43_35 : List RP := ⟨(some 38), none, false, (.bin .lss (.t 34) (.t 37))⟩ :: []
abbrev q43_36 : List RP := ⟨(some 37), none, false, (.len (.t 36))⟩ :: q43_35
abbrev q43_37 : List RP := ⟨(some 36), none, false, (.ld false 1 (.t 35))⟩ :: q43_36
abbrev q43_38 : List RP := ⟨(some 35), none, false, (.fa 0 (.t 3))⟩ :: q43_37
abbrev q43_39 : List RP := ⟨(some 34), none, false, (.mv (.t 5))⟩ :: q43_38
abbrev q43_40 : RQ := (.exit 0)
abbrev q43_41 : RQ := (.cond (.t 38) .skip q43_40)
abbrev q43_42 : List RP := ⟨none, none, false, (.st 6 (.t 6) (.t 45))⟩ :: []
abbrev q43_43 : List RP := ⟨(some 6), none, false, (.alloc [(.int .i64 0), (.int .i64 0), (.int .i64 0), (.int .u8 0), (.int .u64 0), (.int .u64 0)])⟩ :: q43_42
abbrev q43_44 : List RP := ⟨(some 45), none, false, (.ld true 6 (.t 44))⟩ :: q43_43
abbrev q43_45 : List RP := ⟨(some 44), none, false, (.ias 6 (.t 42) (.t 43))⟩ :: q43_44
abbrev q43_46 : List RP := ⟨(some 43), none, false, (.mv (.t 5))⟩ :: q43_45
abbrev q43_47 : List RP := ⟨(some 42), none, false, (.ld false 1 (.t 41))⟩ :: q43_46
abbrev q43_48 : List RP := ⟨(some 41), none, false, (.fa 0 (.t 3))⟩ :: q43_47
abbrev q43_49 : List RP := ⟨(some 71), none, false, (.pick (.t 64) (.c (.bool true)) (.t 70))⟩ :: []
abbrev q43_50 : List RP := ⟨(some 70), (some (64, false)), false, (.bin .geq (.t 66) (.t 69))⟩ :: q43_49
abbrev q43_51 : List RP := ⟨(some 69), (some (64, false)), false, (.len (.t 68))⟩ :: q43_50
abbrev q43_52 : List RP := ⟨(some 68), (some (64, false)), false, (.ld false 1 (.t 67))⟩ :: q43_51
abbrev q43_53 : List RP := ⟨(some 67), (some (64, false)), false, (.fa 2 (.t 2))⟩ :: q43_52
abbrev q43_54 : List RP := ⟨(some 66), (some (64, false)), false, (.ld false 1 (.t 65))⟩ :: q43_53
abbrev q43_55 : List RP := ⟨(some 65), (some (64, false)), false, (.fa 2 (.t 6))⟩ :: q43_54
abbrev q43_56 : List RP := ⟨(some 64), none, false, (.mv (.t 63))⟩ :: q43_55
abbrev q43_57 : List RP := ⟨(some 63), none, false, (.pick (.t 56) (.c (.bool true)) (.t 62))⟩ :: q43_56
abbrev q43_58 : List RP := ⟨(some 62), (some (56, false)), false, (.bin .geq (.t 58) (.t 61))⟩ :: q43_57
abbrev q43_59 : List RP := ⟨(some 61), (some (56, false)), false, (.len (.t 60))⟩ :: q43_58
abbrev q43_60 : List RP := ⟨(some 60), (some (56, false)), false, (.ld false 1 (.t 59))⟩ :: q43_59
abbrev q43_61 : List RP := ⟨(some 59), (some (56, false)), false, (.fa 1 (.t 2))⟩ :: q43_60
abbrev q43_62 : List RP := ⟨(some 58), (some (56, false)), false, (.ld false 1 (.t 57))⟩ :: q43_61
abbrev q43_63 : List RP := ⟨(some 57), (some (56, false)), false, (.fa 1 (.t 6))⟩ :: q43_62
abbrev q43_64 : List RP := ⟨(some 56), none, false, (.mv (.t 55))⟩ :: q43_63
abbrev q43_65 : List RP := ⟨(some 55), none, false, (.pick (.t 51) (.c (.bool true)) (.t 54))⟩ :: q43_64
abbrev q43_66 : List RP := ⟨(some 54), (some (51, false)), false, (.not (.t 53))⟩ :: q43_65
abbrev q43_67 : List RP := ⟨(some 53), (some (51, false)), false, (.cal 56 [(.t 52)])⟩ :: q43_66
abbrev q43_68 : List RP := ⟨(some 52), (some (51, false)), true, (.ld true 6 (.t 6))⟩ :: q43_67
abbrev q43_69 : List RP := ⟨(some 51), none, false, (.mv (.t 50))⟩ :: q43_68
abbrev q43_70 : List RP := ⟨(some 50), none, false, (.bin .neq (.t 47) (.t 49))⟩ :: q43_69
abbrev q43_71 : List RP := ⟨(some 49), none, false, (.bin .add (.t 48) (.c (.int .i64 1)))⟩ :: q43_70
abbrev q43_72 : List RP := ⟨(some 48), none, false, (.mv (.t 5))⟩ :: q43_71
abbrev q43_73 : List RP := ⟨(some 47), none, false, (.ld false 1 (.t 46))⟩ :: q43_72
abbrev q43_74 : List RP := ⟨(some 46), none, false, (.fa 0 (.t 6))⟩ :: q43_73
abbrev q43_75 : List RP := ⟨(some 4), none, false, (.mv (.c (.bool false)))⟩ :: []
abbrev q43_76 : RQ := (.seq (.reg q43_75) .ret)
abbrev q43_77 : RQ := (.cond (.t 71) q43_76 .skip)
abbrev q43_78 : RQ := (.seq (.reg q43_74) q43_77)
abbrev q43_79 : List RP := ⟨(some 5), none, false, (.mv (.t 40))⟩ :: []
abbrev q43_80 : List RP := ⟨(some 40), none, false, (.bin .add (.t 39) (.c (.int .i64 1)))⟩ :: q43_79
abbrev q43_81 : List RP := ⟨(some 39), none, false, (.mv (.t 5))⟩ :: q43_80
abbrev q43_82 : RQ := (.reg q43_81)
abbrev q43_83 : RQ := (.seq (.block 1 (.seq (.reg q43_48) q43_78)) q43_82)
abbrev q43_84 : RQ := (.seq (.seq (.reg q43_39) q43_41) q43_83)
abbrev q43_85 : RQ := (.block 0 (.loop q43_84))
abbrev q43_86 : List (Bool × RP) := (false, ⟨(some 4), none, false, (.mv (.t 77))⟩) :: []
abbrev q43_87 : List (Bool × RP) := (false, ⟨(some 77), none, false, (.cal 68 [(.t 73), (.t 76)])⟩) :: q43_86
abbrev q43_88 : List (Bool × RP) := (false, ⟨(some 76), none, true, (.cal 70 [(.t 75)])⟩) :: q43_87
abbrev q43_89 : List (Bool × RP) := (false, ⟨(some 75), none, true, (.ld false 1 (.t 74))⟩) :: q43_88
abbrev q43_90 : List (Bool × RP) := (false, ⟨(some 74), none, false, (.fa 0 (.t 3))⟩) :: q43_89
abbrev q43_91 : List (Bool × RP) := (false, ⟨(some 73), none, true, (.ld false 1 (.t 72))⟩) :: q43_90
abbrev q43_92 : List (Bool × RP) := (false, ⟨(some 72), none, false, (.fa 1 (.t 3))⟩) :: q43_91
abbrev q43_93 : RQ := (.seq (.drw q43_92 []) .ret)
abbrev q43_94 : RQ := (.seq (.seq (.reg q43_34) q43_85) q43_93)
abbrev q43_95 : RQ := (.seq (.seq (.reg q43_30) q43_33) q43_94)
abbrev q43 : RQ := (.seq (.reg q43_3) q43_95)
theorem l43 : ∃ c, f43.body = some c ∧ liteC prog f43.ntmps c = some q43 := ⟨_, rfl, by kernel_rfl⟩
theorem e43 : prog.funcs[43]? = some f43 := by kernel_rfl
theorem r43 : mapO (resOf prog) f43.results.toList = some [(.t 4)] := by kernel_rfl
theorem n43 : f43.ntmps = 78 := rfl

abbrev q44_1 : List RP := ⟨(some 6), none, false, (.mv (.c (.int .i64 0)))⟩ :: []
abbrev q44_2 : List RP := ⟨(some 5), none, false, (.mv (.c (.int .i64 0)))⟩ :: q44_1
abbrev q44_3 : List RP := ⟨(some 4), none, false, (.alloc [.nils, .nils, (.int .u64 0), (.int .i64 0)])⟩ :: q44_2
abbrev q44_4 : List RP := ⟨(some 3), none, false, (.box (.t 1))⟩ :: q44_3
abbrev q44_5 : List RP := ⟨(some 2), none, false, (.box (.t 0))⟩ :: q44_4
abbrev q44_6 : List RP := ⟨(some 7), none, false, (.mv (.t 13))⟩ :: []
abbrev q44_7 : List RP := ⟨(some 13), none, false, (.cal 29 [(.t 11), (.t 12)])⟩ :: q44_6
abbrev q44_8 : List RP := ⟨(some 12), none, true, (.ld true 4 (.t 3))⟩ :: q44_7
abbrev q44_9 : List RP := ⟨(some 11), none, true, (.ld true 8 (.t 2))⟩ :: q44_8
abbrev q44_10 : List RP := ⟨(some 15), none, false, (.bin .neq (.t 14) (.c (.int .i64 0)))⟩ :: []
abbrev q44_11 : List RP := ⟨(some 14), none, false, (.mv (.t 7))⟩ :: q44_10
abbrev q44_12 : List RP := ⟨(some 6), none, false, (.mv (.t 17))⟩ :: []
abbrev q44_13 : List RP := ⟨(some 5), none, false, (.mv (.c (.int .i64 0)))⟩ :: q44_12
abbrev q44_14 : List RP := ⟨none, none, false, (.st 4 (.t 4) (.t 16))⟩ :: q44_13
abbrev q44_15 : List RP := ⟨(some 17), none, false, (.mv (.t 7))⟩ :: q44_14
abbrev q44_16 : List RP := ⟨(some 16), none, false, (.build [.nils, .nils, (.int .u64 0), (.int .i64 0)] [])⟩ :: q44_15
abbrev q44_17 : RQ := (.seq (.reg q44_16) .ret)
abbrev q44_18 : RQ := (.cond (.t 15) q44_17 .skip)
abbrev q44_19 : RQ := (.seq (.reg q44_11) q44_18)
abbrev q44_20 : List RP := ⟨(some 21), none, false, (.bin .eql (.t 20) (.c (.int .i64 0)))⟩ :: []
abbrev q44_21 : List RP := ⟨(some 20), none, false, (.len (.t 19))⟩ :: q44_20
abbrev q44_22 : List RP := ⟨(some 19), none, false, (.ld false 1 (.t 18))⟩ :: q44_21
abbrev q44_23 : List RP := ⟨(some 18), none, false, (.fa 1 (.t 3))⟩ :: q44_22
abbrev q44_24 : List RP := ⟨(some 6), none, false, (.mv (.c (.int .i64 6)))⟩ :: []
abbrev q44_25 : List RP := ⟨(some 5), none, false, (.mv (.c (.int .i64 0)))⟩ :: q44_24
abbrev q44_26 : List RP := ⟨none, none, false, (.st 4 (.t 4) (.t 22))⟩ :: q44_25
abbrev q44_27 : List RP := ⟨(some 22), none, false, (.build [.nils, .nils, (.int .u64 0), (.int .i64 0)] [])⟩ :: q44_26
abbrev q44_28 : RQ := (.seq (.reg q44_27) .ret)
abbrev q44_29 : RQ := (.cond (.t 21) q44_28 .skip)
abbrev q44_30 : List RP := ⟨(some 8), none, false, (.mv (.t 26))⟩ :: []
abbrev q44_31 : List RP := ⟨(some 26), none, false, (.ld false 1 (.t 25))⟩ :: q44_30
abbrev q44_32 : List RP := ⟨(some 25), none, false, (.ias 1 (.t 24) (.c (.int .i64 0)))⟩ :: q44_31
abbrev q44_33 : List RP := ⟨(some 24), none, false, (.ld false 1 (.t 23))⟩ :: q44_32
abbrev q44_34 : List RP := ⟨(some 23), none, false, (.fa 1 (.t 3))⟩ :: q44_33
abbrev q44_35 : List RP := ⟨(some 10), none, false, (.mv (.t 33))⟩ :: []
abbrev q44_36 : List RP := ⟨none, none, false, (.st 4 (.t 9) (.t 32))⟩ :: q44_35
abbrev q44_37 : List RP := ⟨(some 9), none, false, (.alloc [.nils, .nils, (.int .u64 0), (.int .i64 0)])⟩ :: q44_36
abbrev q44_38 : List RP := ⟨(some 33), none, false, (.ext (.t 27) 1)⟩ :: q44_37
abbrev q44_39 : List RP := ⟨(some 32), none, false, (.ext (.t 27) 0)⟩ :: q44_38
abbrev q44_40 : List RP := ⟨(some 27), none, false, (.mv (.t 31))⟩ :: q44_39
abbrev q44_41 : List RP := ⟨(some 31), none, false, (.cal 71 [(.t 28), (.t 29), (.t 30), (.c (.int .u8 2)), (.c (.int .u64 0))])⟩ :: q44_40
abbrev q44_42 : List RP := ⟨(some 30), none, true, (.mv (.t 8))⟩ :: q44_41
abbrev q44_43 : List RP := ⟨(some 29), none, true, (.ld true 4 (.t 3))⟩ :: q44_42
abbrev q44_44 : List RP := ⟨(some 28), none, true, (.ld true 8 (.t 2))⟩ :: q44_43
abbrev q44_45 : List RP := ⟨(some 35), none, false, (.bin .neq (.t 34) (.c (.int .i64 0)))⟩ :: []
abbrev q44_46 : List RP := ⟨(some 34), none, false, (.mv (.t 10))⟩ :: q44_45
abbrev q44_47 : List RP := ⟨(some 6), none, false, (.mv (.t 37))⟩ :: []
abbrev q44_48 : List RP := ⟨(some 5), none, false, (.mv (.c (.int .i64 0)))⟩ :: q44_47
abbrev q44_49 : List RP := ⟨none, none, false, (.st 4 (.t 4) (.t 36))⟩ :: q44_48
abbrev q44_50 : List RP := ⟨(some 37), none, false, (.mv (.t 10))⟩ :: q44_49
abbrev q44_51 : List RP := ⟨(some 36), none, false, (.build [.nils, .nils, (.int .u64 0), (.int .i64 0)] [])⟩ :: q44_50
abbrev q44_52 : RQ := (.seq (.reg q44_51) .ret)
abbrev q44_53 : RQ := (.cond (.t 35) q44_52 .skip)
abbrev q44_54 : List RP := ⟨(some 6), none, false, (.mv (.c (.int .i64 0)))⟩ :: []
abbrev q44_55 : List RP := ⟨(some 5), none, false, (.mv (.t 39))⟩ :: q44_54
abbrev q44_56 : List RP := ⟨none, none, false, (.st 4 (.t 4) (.t 38))⟩ :: q44_55
abbrev q44_57 : List RP := ⟨(some 39), none, false, (.mv (.t 8))⟩ :: q44_56
abbrev q44_58 : List RP := ⟨(some 38), none, false, (.ld true 4 (.t 9))⟩ :: q44_57
abbrev q44_59 : RQ := (.seq (.reg q44_58) .ret)
abbrev q44_60 : RQ := (.seq (.seq (.reg q44_46) q44_53) q44_59)
abbrev q44_61 : RQ := (.seq (.reg q44_44) q44_60)
abbrev q44_62 : RQ := (.seq (.reg q44_34) q44_61)
abbrev q44_63 : RQ := (.seq (.seq (.reg q44_23) q44_29) q44_62)
abbrev q44_64 : RQ := (.seq (.seq (.reg q44_9) q44_19) q44_63)
abbrev q44 : RQ := (.seq (.reg q44_5) q44_64)
theorem l44 : ∃ c, f44.body = some c ∧ liteC prog f44.ntmps c = some q44 := ⟨_, rfl, by kernel_rfl⟩
theorem e44 : prog.funcs[44]? = some f44 := by kernel_rfl
theorem r44 : mapO (resOf prog) f44.results.toList = some [(.c 4 true 4), (.t 5), (.t 6)] := by kernel_rfl
theorem n44 : f44.ntmps = 40 := rfl

abbrev q45_1 : List RP := ⟨(some 7), none, false, (.mv (.c (.int .i64 0)))⟩ :: []
abbrev q45_2 : List RP := ⟨(some 6), none, false, (.alloc [(.int .i64 0), (.int .i64 0), (.int .i64 0), (.int .u8 0), (.int .u64 0), (.int .u64 0)])⟩ :: q45_1
abbrev q45_3 : List RP := ⟨(some 4), none, false, (.box (.t 1))⟩ :: q45_2
abbrev q45_4 : List RP := ⟨(some 3), none, false, (.box (.t 0))⟩ :: q45_3
abbrev q45_5 : List RP := ⟨(some 9), none, false, (.mv (.t 15))⟩ :: []
abbrev q45_6 : List RP := ⟨none, none, false, (.st 12 (.t 8) (.t 14))⟩ :: q45_5
abbrev q45_7 : List RP := ⟨(some 8), none, false, (.alloc [.nils, .nils, (.int .u64 0), (.int .i64 0), .nils, .nils, .nils, (.int .i64 0), (.int .i64 0), (.int .i64 0), (.int .i64 0), (.int .i64 0)])⟩ :: q45_6
abbrev q45_8 : List RP := ⟨(some 15), none, false, (.ext (.t 10) 1)⟩ :: q45_7
abbrev q45_9 : List RP := ⟨(some 14), none, false, (.ext (.t 10) 0)⟩ :: q45_8
abbrev q45_10 : List RP := ⟨(some 10), none, false, (.mv (.t 13))⟩ :: q45_9
abbrev q45_11 : List RP := ⟨(some 13), none, false, (.cal 53 [(.t 11), (.t 12)])⟩ :: q45_10
abbrev q45_12 : List RP := ⟨(some 12), none, true, (.ld true 4 (.t 4))⟩ :: q45_11
abbrev q45_13 : List RP := ⟨(some 11), none, true, (.ld true 8 (.t 3))⟩ :: q45_12
abbrev q45_14 : List RP := ⟨(some 17), none, false, (.bin .neq (.t 16) (.c (.int .i64 0)))⟩ :: []
abbrev q45_15 : List RP := ⟨(some 16), none, false, (.mv (.t 9))⟩ :: q45_14
abbrev q45_16 : List RP := ⟨(some 7), none, false, (.mv (.t 19))⟩ :: []
abbrev q45_17 : List RP := ⟨none, none, false, (.st 6 (.t 6) (.t 18))⟩ :: q45_16
abbrev q45_18 : List RP := ⟨(some 19), none, false, (.mv (.t 9))⟩ :: q45_17
abbrev q45_19 : List RP := ⟨(some 18), none, false, (.build [(.int .i64 0), (.int .i64 0), (.int .i64 0), (.int .u8 0), (.int .u64 0), (.int .u64 0)] [])⟩ :: q45_18
abbrev q45_20 : RQ := (.seq (.reg q45_19) .ret)
abbrev q45_21 : RQ := (.cond (.t 17) q45_20 .skip)
abbrev q45_22 : List RP := ⟨(some 7), none, false, (.mv (.t 24))⟩ :: []
abbrev q45_23 : List RP := ⟨none, none, false, (.st 6 (.t 6) (.t 23))⟩ :: q45_22
abbrev q45_24 : List RP := ⟨(some 24), none, false, (.ext (.t 22) 1)⟩ :: q45_23
abbrev q45_25 : List RP := ⟨(some 23), none, false, (.ext (.t 22) 0)⟩ :: q45_24
abbrev q45_26 : List RP := ⟨(some 22), none, false, (.cal 72 [(.t 20), (.t 21)])⟩ :: q45_25
abbrev q45_27 : List RP := ⟨(some 21), none, true, (.mv (.t 2))⟩ :: q45_26
abbrev q45_28 : List RP := ⟨(some 20), none, true, (.ld true 12 (.t 8))⟩ :: q45_27
abbrev q45_29 : RQ := (.seq (.reg q45_28) .ret)
abbrev q45_30 : RQ := (.seq (.seq (.reg q45_15) q45_21) q45_29)
abbrev q45_31 : RQ := (.seq (.reg q45_13) q45_30)
abbrev q45 : RQ := (.seq (.reg q45_4) q45_31)
theorem l45 : ∃ c, f45.body = some c ∧ liteC prog f45.ntmps c = some q45 := ⟨_, rfl, by kernel_rfl⟩
theorem e45 : prog.funcs[45]? = some f45 := by kernel_rfl
theorem r45 : mapO (resOf prog) f45.results.toList = some [(.c 6 true 6), (.t 7)] := by kernel_rfl
theorem n45 : f45.ntmps = 25 := rfl

abbrev q46_1 : List RP := ⟨(some 7), none, false, (.mv (.c (.int .i64 0)))⟩ :: []
abbrev q46_2 : List RP := ⟨(some 6), none, false, (.alloc [.nils, .nils, (.int .u64 0), (.int .i64 0)])⟩ :: q46_1
abbrev q46_3 : List RP := ⟨(some 4), none, false, (.box (.t 1))⟩ :: q46_2
abbrev q46_4 : List RP := ⟨(some 3), none, false, (.box (.t 0))⟩ :: q46_3
abbrev q46_5 : List RP := ⟨(some 7), none, false, (.mv (.t 13))⟩ :: []
abbrev q46_6 : List RP := ⟨none, none, false, (.st 4 (.t 6) (.t 12))⟩ :: q46_5
abbrev q46_7 : List RP := ⟨(some 13), none, false, (.ext (.t 11) 1)⟩ :: q46_6
abbrev q46_8 : List RP := ⟨(some 12), none, false, (.ext (.t 11) 0)⟩ :: q46_7
abbrev q46_9 : List RP := ⟨(some 11), none, false, (.cal 71 [(.t 8), (.t 9), (.t 10), (.c (.int .u8 5)), (.c (.int .u64 0))])⟩ :: q46_8
abbrev q46_10 : List RP := ⟨(some 10), none, true, (.mv (.t 2))⟩ :: q46_9
abbrev q46_11 : List RP := ⟨(some 9), none, true, (.ld true 4 (.t 4))⟩ :: q46_10
abbrev q46_12 : List RP := ⟨(some 8), none, true, (.ld true 8 (.t 3))⟩ :: q46_11
abbrev q46_13 : RQ := (.seq (.reg q46_12) .ret)
abbrev q46 : RQ := (.seq (.reg q46_4) q46_13)
theorem l46 : ∃ c, f46.body = some c ∧ liteC prog f46.ntmps c = some q46 := ⟨_, rfl, by kernel_rfl⟩
theorem e46 : prog.funcs[46]? = some f46 := by kernel_rfl
theorem r46 : mapO (resOf prog) f46.results.toList = some [(.c 6 true 4), (.t 7)] := by kernel_rfl
theorem n46 : f46.ntmps = 14 := rfl

abbrev q47_1 : List RP := ⟨(some 2), none, false, (.mv (.c (.bool false)))⟩ :: []
abbrev q47_2 : List RP := ⟨(some 2), none, false, (.mv (.t 8))⟩ :: []
abbrev q47_3 : List RP := ⟨(some 8), none, false, (.pick (.t 5) (.t 7) (.c (.bool false)))⟩ :: q47_2
abbrev q47_4 : List RP := ⟨(some 7), (some (5, true)), false, (.bin .leq (.t 6) (.c (.int .u8 5)))⟩ :: q47_3
abbrev q47_5 : List RP := ⟨(some 6), (some (5, true)), false, (.mv (.t 0))⟩ :: q47_4
abbrev q47_6 : List RP := ⟨(some 5), none, false, (.mv (.t 4))⟩ :: q47_5
abbrev q47_7 : List RP := ⟨(some 4), none, false, (.bin .geq (.t 3) (.c (.int .u8 1)))⟩ :: q47_6
abbrev q47_8 : List RP := ⟨(some 3), none, false, (.mv (.t 0))⟩ :: q47_7
abbrev q47_9 : RQ := (.seq (.reg q47_8) .ret)
abbrev q47 : RQ := (.seq (.reg q47_1) q47_9)
theorem l47 : ∃ c, f47.body = some c ∧ liteC prog f47.ntmps c = some q47 := ⟨_, rfl, by kernel_rfl⟩
theorem e47 : prog.funcs[47]? = some f47 := by kernel_rfl
theorem r47 : mapO (resOf prog) f47.results.toList = some [(.t 2)] := by kernel_rfl
theorem n47 : f47.ntmps = 9 := rfl

abbrev q48_1 : List RP := ⟨(some 4), none, false, (.mv (.c (.bool false)))⟩ :: []
abbrev q48_2 : List RP := ⟨(some 5), none, false, (.mv (.t 1))⟩ :: []
abbrev q48_3 : List RP := ⟨(some 6), none, false, (.mv (.t 7))⟩ :: []
abbrev q48_4 : List RP := ⟨(some 7), none, false, (.bin .eql (.t 5) (.c (.int .u8 2)))⟩ :: q48_3
abbrev q48_5 : List RP := ⟨(some 6), none, false, (.mv (.t 8))⟩ :: []
abbrev q48_6 : List RP := ⟨(some 8), none, false, (.bin .eql (.t 5) (.c (.int .u8 5)))⟩ :: q48_5
abbrev q48_7 : RQ := (.reg q48_6)
abbrev q48_8 : RQ := (.cond (.t 6) .skip q48_7)
abbrev q48_9 : List RP := ⟨(some 4), none, false, (.mv (.t 10))⟩ :: []
abbrev q48_10 : List RP := ⟨(some 10), none, false, (.bin .eql (.t 9) (.c (.int .u8 1)))⟩ :: q48_9
abbrev q48_11 : List RP := ⟨(some 9), none, false, (.mv (.t 0))⟩ :: q48_10
abbrev q48_12 : RQ := (.seq (.reg q48_11) .ret)
abbrev q48_13 : List RP := ⟨(some 11), none, false, (.mv (.t 12))⟩ :: []
abbrev q48_14 : List RP := ⟨(some 12), none, false, (.bin .eql (.t 5) (.c (.int .u8 3)))⟩ :: q48_13
abbrev q48_15 : List RP := ⟨(some 4), none, false, (.mv (.t 14))⟩ :: []
abbrev q48_16 : List RP := ⟨(some 14), none, false, (.bin .eql (.t 13) (.c (.int .u8 2)))⟩ :: q48_15
abbrev q48_17 : List RP := ⟨(some 13), none, false, (.mv (.t 0))⟩ :: q48_16
abbrev q48_18 : RQ := (.seq (.reg q48_17) .ret)
abbrev q48_19 : List RP := ⟨(some 15), none, false, (.mv (.t 16))⟩ :: []
abbrev q48_20 : List RP := ⟨(some 16), none, false, (.bin .eql (.t 5) (.c (.int .u8 4)))⟩ :: q48_19
abbrev q48_21 : List RP := ⟨(some 4), none, false, (.mv (.t 18))⟩ :: []
abbrev q48_22 : List RP := ⟨(some 18), none, false, (.bin .eql (.t 17) (.c (.int .u8 3)))⟩ :: q48_21
abbrev q48_23 : List RP := ⟨(some 17), none, false, (.mv (.t 0))⟩ :: q48_22
abbrev q48_24 : RQ := (.seq (.reg q48_23) .ret)
abbrev q48_25 : RQ := (.cond (.t 15) q48_24 .skip)
abbrev q48_26 : RQ := (.seq (.reg q48_20) q48_25)
abbrev q48_27 : RQ := (.cond (.t 11) q48_18 q48_26)
abbrev q48_28 : RQ := (.seq (.reg q48_14) q48_27)
abbrev q48_29 : RQ := (.cond (.t 6) q48_12 q48_28)
abbrev q48_30 : RQ := (.block 0 (.seq (.seq (.reg q48_4) q48_8) q48_29))
abbrev q48_31 : List RP := ⟨(some 4), none, false, (.mv (.c (.bool false)))⟩ :: []
abbrev q48_32 : RQ := (.seq (.reg q48_31) .ret)
abbrev q48_33 : RQ := (.seq (.seq (.reg q48_2) q48_30) q48_32)
abbrev q48 : RQ := (.seq (.reg q48_1) q48_33)
theorem l48 : ∃ c, f48.body = some c ∧ liteC prog f48.ntmps c = some q48 := ⟨_, rfl, by kernel_rfl⟩
theorem e48 : prog.funcs[48]? = some f48 := by kernel_rfl
theorem r48 : mapO (resOf prog) f48.results.toList = some [(.t 4)] := by kernel_rfl
theorem n48 : f48.ntmps = 19 := rfl

abbrev q49_1 : List RP := ⟨(some 4), none, false, (.mv (.c (.int .u64 0)))⟩ :: []
abbrev q49_2 : List RP := ⟨(some 4), none, false, (.mv (.t 8))⟩ :: []
abbrev q49_3 : List RP := ⟨(some 8), none, false, (.bin .quo (.t 5) (.t 7))⟩ :: q49_2
abbrev q49_4 : List RP := ⟨(some 7), none, false, (.cv .u64 (.t 6))⟩ :: q49_3
abbrev q49_5 : List RP := ⟨(some 6), none, false, (.mv (.t 1))⟩ :: q49_4
abbrev q49_6 : List RP := ⟨(some 5), none, false, (.mv (.t 0))⟩ :: q49_5
abbrev q49_7 : RQ := (.seq (.reg q49_6) .ret)
abbrev q49 : RQ := (.seq (.reg q49_1) q49_7)
theorem l49 : ∃ c, f49.body = some c ∧ liteC prog f49.ntmps c = some q49 := ⟨_, rfl, by kernel_rfl⟩
theorem e49 : prog.funcs[49]? = some f49 := by kernel_rfl
theorem r49 : mapO (resOf prog) f49.results.toList = some [(.t 4)] := by kernel_rfl
theorem n49 : f49.ntmps = 9 := rfl

abbrev q50_1 : List RP := ⟨(some 6), none, false, (.mv (.c (.bool false)))⟩ :: []
abbrev q50_2 : List RP := ⟨(some 11), none, false, (.mv (.c (.int .i64 0)))⟩ :: []
abbrev q50_3 : List RP := ⟨(some 10), none, false, (.len (.t 9))⟩ :: q50_2
abbrev q50_4 : List RP := ⟨(some 9), none, false, (.mv (.t 2))⟩ :: q50_3
abbrev q50_5 : List RP := ⟨(some 12), none, false, (.bin .lss (.t 11) (.t 10))⟩ :: []
abbrev q50_6 : RQ := (.exit 0)
abbrev q50_7 : List RP := ⟨(some 8), none, false, (.mv (.t 14))⟩ :: []
abbrev q50_8 : List RP := ⟨(some 14), none, false, (.ld false 1 (.t 13))⟩ :: q50_7
abbrev q50_9 : List RP := ⟨(some 13), none, false, (.ias 1 (.t 9) (.t 11))⟩ :: q50_8
abbrev q50_10 : List RP := ⟨(some 22), none, false, (.pick (.t 18) (.c (.bool true)) (.t 21))⟩ :: []
abbrev q50_11 : List RP := ⟨(some 21), (some (18, false)), false, (.bin .gtr (.t 19) (.t 20))⟩ :: q50_10
abbrev q50_12 : List RP := ⟨(some 20), (some (18, false)), false, (.mv (.t 1))⟩ :: q50_11
abbrev q50_13 : List RP := ⟨(some 19), (some (18, false)), false, (.mv (.t 8))⟩ :: q50_12
abbrev q50_14 : List RP := ⟨(some 18), none, false, (.mv (.t 17))⟩ :: q50_13
abbrev q50_15 : List RP := ⟨(some 17), none, false, (.bin .lss (.t 15) (.t 16))⟩ :: q50_14
abbrev q50_16 : List RP := ⟨(some 16), none, false, (.mv (.t 0))⟩ :: q50_15
abbrev q50_17 : List RP := ⟨(some 15), none, false, (.mv (.t 8))⟩ :: q50_16
abbrev q50_18 : List RP := ⟨(some 6), none, false, (.mv (.c (.bool false)))⟩ :: []
abbrev q50_19 : RQ := (.seq (.reg q50_18) .ret)
abbrev q50_20 : RQ := (.cond (.t 22) q50_19 .skip)
abbrev q50_21 : RQ := (.seq (.reg q50_17) q50_20)
abbrev q50_22 : List RP := ⟨(some 11), none, false, (.mv (.t 23))⟩ :: []
abbrev q50_23 : List RP := ⟨(some 23), none, false, (.bin .add (.t 11) (.c (.int .i64 1)))⟩ :: q50_22
abbrev q50_24 : RQ := (.reg q50_23)
abbrev q50_25 : RQ := (.seq (.block 1 (.seq (.reg q50_9) q50_21)) q50_24)
abbrev q50_26 : RQ := (.seq (.cond (.t 12) .skip q50_6) q50_25)
abbrev q50_27 : RQ := (.seq (.reg q50_5) q50_26)
abbrev q50_28 : RQ := (.block 0 (.loop q50_27))
abbrev q50_29 : List RP := ⟨(some 6), none, false, (.mv (.c (.bool true)))⟩ :: []
abbrev q50_30 : RQ := (.seq (.reg q50_29) .ret)
abbrev q50_31 : RQ := (.seq (.seq (.reg q50_4) q50_28) q50_30)
abbrev q50 : RQ := (.seq (.reg q50_1) q50_31)
theorem l50 : ∃ c, f50.body = some c ∧ liteC prog f50.ntmps c = some q50 := ⟨_, rfl, by kernel_rfl⟩
theorem e50 : prog.funcs[50]? = some f50 := by kernel_rfl
theorem r50 : mapO (resOf prog) f50.results.toList = some [(.t 6)] := by kernel_rfl
theorem n50 : f50.ntmps = 24 := rfl

abbrev q51_1 : List RP := ⟨(some 7), none, false, (.mv (.c (.int .i64 0)))⟩ :: []
abbrev q51_2 : List RP := ⟨(some 6), none, false, (.alloc [.nils, .nils, (.int .u64 0), (.int .i64 0)])⟩ :: q51_1
abbrev q51_3 : List RP := ⟨(some 4), none, false, (.box (.t 1))⟩ :: q51_2
abbrev q51_4 : List RP := ⟨(some 3), none, false, (.box (.t 0))⟩ :: q51_3
abbrev q51_5 : List RP := ⟨(some 7), none, false, (.mv (.t 13))⟩ :: []
abbrev q51_6 : List RP := ⟨none, none, false, (.st 4 (.t 6) (.t 12))⟩ :: q51_5
abbrev q51_7 : List RP := ⟨(some 13), none, false, (.ext (.t 11) 1)⟩ :: q51_6
abbrev q51_8 : List RP := ⟨(some 12), none, false, (.ext (.t 11) 0)⟩ :: q51_7
abbrev q51_9 : List RP := ⟨(some 11), none, false, (.cal 71 [(.t 8), (.t 9), (.t 10), (.c (.int .u8 3)), (.c (.int .u64 0))])⟩ :: q51_8
abbrev q51_10 : List RP := ⟨(some 10), none, true, (.mv (.t 2))⟩ :: q51_9
abbrev q51_11 : List RP := ⟨(some 9), none, true, (.ld true 4 (.t 4))⟩ :: q51_10
abbrev q51_12 : List RP := ⟨(some 8), none, true, (.ld true 8 (.t 3))⟩ :: q51_11
abbrev q51_13 : RQ := (.seq (.reg q51_12) .ret)
abbrev q51 : RQ := (.seq (.reg q51_4) q51_13)
theorem l51 : ∃ c, f51.body = some c ∧ liteC prog f51.ntmps c = some q51 := ⟨_, rfl, by kernel_rfl⟩
theorem e51 : prog.funcs[51]? = some f51 := by kernel_rfl
theorem r51 : mapO (resOf prog) f51.results.toList = some [(.c 6 true 4), (.t 7)] := by kernel_rfl
theorem n51 : f51.ntmps = 14 := rfl

abbrev q52_1 : List RP := ⟨(some 9), none, false, (.mv (.c (.int .i64 0)))⟩ :: []
abbrev q52_2 : List RP := ⟨(some 8), none, false, (.alloc [.nils, .nils, (.int .u64 0), (.int .i64 0)])⟩ :: q52_1
abbrev q52_3 : List RP := ⟨(some 5), none, false, (.box (.t 1))⟩ :: q52_2
abbrev q52_4 : List RP := ⟨(some 4), none, false, (.box (.t 0))⟩ :: q52_3
abbrev q52_5 : List RP := ⟨(some 9), none, false, (.mv (.t 16))⟩ :: []
abbrev q52_6 : List RP := ⟨none, none, false, (.st 4 (.t 8) (.t 15))⟩ :: q52_5
abbrev q52_7 : List RP := ⟨(some 16), none, false, (.ext (.t 14) 1)⟩ :: q52_6
abbrev q52_8 : List RP := ⟨(some 15), none, false, (.ext (.t 14) 0)⟩ :: q52_7
abbrev q52_9 : List RP := ⟨(some 14), none, false, (.cal 71 [(.t 10), (.t 11), (.t 12), (.c (.int .u8 4)), (.t 13)])⟩ :: q52_8
abbrev q52_10 : List RP := ⟨(some 13), none, true, (.mv (.t 3))⟩ :: q52_9
abbrev q52_11 : List RP := ⟨(some 12), none, true, (.mv (.t 2))⟩ :: q52_10
abbrev q52_12 : List RP := ⟨(some 11), none, true, (.ld true 4 (.t 5))⟩ :: q52_11
abbrev q52_13 : List RP := ⟨(some 10), none, true, (.ld true 8 (.t 4))⟩ :: q52_12
abbrev q52_14 : RQ := (.seq (.reg q52_13) .ret)
abbrev q52 : RQ := (.seq (.reg q52_4) q52_14)
theorem l52 : ∃ c, f52.body = some c ∧ liteC prog f52.ntmps c = some q52 := ⟨_, rfl, by kernel_rfl⟩
theorem e52 : prog.funcs[52]? = some f52 := by kernel_rfl
theorem r52 : mapO (resOf prog) f52.results.toList = some [(.c 8 true 4), (.t 9)] := by kernel_rfl
theorem n52 : f52.ntmps = 17 := rfl

abbrev q53_1 : List RP := ⟨(some 5), none, false, (.mv (.c (.int .i64 0)))⟩ :: []
abbrev q53_2 : List RP := ⟨(some 4), none, false, (.alloc [.nils, .nils, (.int .u64 0), (.int .i64 0), .nils, .nils, .nils, (.int .i64 0), (.int .i64 0), (.int .i64 0), (.int .i64 0), (.int .i64 0)])⟩ :: q53_1
abbrev q53_3 : List RP := ⟨(some 3), none, false, (.box (.t 1))⟩ :: q53_2
abbrev q53_4 : List RP := ⟨(some 2), none, false, (.box (.t 0))⟩ :: q53_3
abbrev q53_5 : List RP := ⟨none, none, false, (.st 12 (.t 6) (.t 10))⟩ :: []
abbrev q53_6 : List RP := ⟨(some 6), none, false, (.alloc [.nils, .nils, (.int .u64 0), (.int .i64 0), .nils, .nils, .nils, (.int .i64 0), (.int .i64 0), (.int .i64 0), (.int .i64 0), (.int .i64 0)])⟩ :: q53_5
abbrev q53_7 : List RP := ⟨(some 10), none, false, (.build [.nils, .nils, (.int .u64 0), (.int .i64 0), .nils, .nils, .nils, (.int .i64 0), (.int .i64 0), (.int .i64 0), (.int .i64 0), (.int .i64 0)] [(0, 4, (.t 8)), (4, 8, (.t 9))])⟩ :: q53_6
abbrev q53_8 : List RP := ⟨(some 9), none, false, (.ld true 8 (.t 2))⟩ :: q53_7
abbrev q53_9 : List RP := ⟨(some 8), none, false, (.ld true 4 (.t 3))⟩ :: q53_8
abbrev q53_10 : List RP := ⟨(some 7), none, false, (.mv (.t 12))⟩ :: []
abbrev q53_11 : List RP := ⟨(some 12), none, false, (.cal 55 [(.t 11)])⟩ :: q53_10
abbrev q53_12 : List RP := ⟨(some 11), none, true, (.ld true 12 (.t 6))⟩ :: q53_11
abbrev q53_13 : List RP := ⟨(some 14), none, false, (.bin .neq (.t 13) (.c (.int .i64 0)))⟩ :: []
abbrev q53_14 : List RP := ⟨(some 13), none, false, (.mv (.t 7))⟩ :: q53_13
abbrev q53_15 : List RP := ⟨(some 5), none, false, (.mv (.t 16))⟩ :: []
abbrev q53_16 : List RP := ⟨none, none, false, (.st 12 (.t 4) (.t 15))⟩ :: q53_15
abbrev q53_17 : List RP := ⟨(some 16), none, false, (.mv (.t 7))⟩ :: q53_16
abbrev q53_18 : List RP := ⟨(some 15), none, false, (.build [.nils, .nils, (.int .u64 0), (.int .i64 0), .nils, .nils, .nils, (.int .i64 0), (.int .i64 0), (.int .i64 0), (.int .i64 0), (.int .i64 0)] [])⟩ :: q53_17
abbrev q53_19 : RQ := (.seq (.reg q53_18) .ret)
abbrev q53_20 : RQ := (.cond (.t 14) q53_19 .skip)
abbrev q53_21 : RQ := (.seq (.reg q53_14) q53_20)
abbrev q53_22 : List (Bool × RP) := (false, ⟨(some 26), none, false, (.fa 0 (.t 25))⟩) :: []
abbrev q53_23 : List (Bool × RP) := (false, ⟨(some 25), none, false, (.fa 0 (.t 6))⟩) :: q53_22
abbrev q53_24 : List (Bool × RP) := (false, ⟨(some 24), none, false, (.cal 74 [(.t 23)])⟩) :: q53_23
abbrev q53_25 : List (Bool × RP) := (false, ⟨(some 23), none, true, (.ld false 1 (.t 22))⟩) :: q53_24
abbrev q53_26 : List (Bool × RP) := (false, ⟨(some 22), none, false, (.fa 1 (.t 21))⟩) :: q53_25
abbrev q53_27 : List (Bool × RP) := (false, ⟨(some 21), none, false, (.fa 0 (.t 6))⟩) :: q53_26
abbrev q53_28 : List (Bool × RP) := (false, ⟨(some 20), none, false, (.cal 73 [(.t 19)])⟩) :: q53_27
abbrev q53_29 : List (Bool × RP) := (false, ⟨(some 19), none, true, (.ld false 1 (.t 18))⟩) :: q53_28
abbrev q53_30 : List (Bool × RP) := (false, ⟨(some 18), none, false, (.fa 0 (.t 17))⟩) :: q53_29
abbrev q53_31 : List (Bool × RP) := (false, ⟨(some 17), none, false, (.fa 0 (.t 6))⟩) :: q53_30
abbrev q53_32 : List RP := ⟨none, none, false, (.st 1 (.t 28) (.t 24))⟩ :: []
abbrev q53_33 : List RP := ⟨(some 28), none, false, (.fa 1 (.t 27))⟩ :: q53_32
abbrev q53_34 : List RP := ⟨(some 27), none, false, (.fa 0 (.t 6))⟩ :: q53_33
abbrev q53_35 : List RP := ⟨none, none, false, (.st 1 (.t 26) (.t 20))⟩ :: q53_34
abbrev q53_36 : List RP := ⟨(some 5), none, false, (.mv (.c (.int .i64 0)))⟩ :: []
abbrev q53_37 : List RP := ⟨none, none, false, (.st 12 (.t 4) (.t 29))⟩ :: q53_36
abbrev q53_38 : List RP := ⟨(some 29), none, false, (.ld true 12 (.t 6))⟩ :: q53_37
abbrev q53_39 : RQ := (.seq (.reg q53_38) .ret)
abbrev q53_40 : RQ := (.seq (.drw q53_31 q53_35) q53_39)
abbrev q53_41 : RQ := (.seq (.seq (.reg q53_12) q53_21) q53_40)
abbrev q53_42 : RQ := (.seq (.reg q53_9) q53_41)
abbrev q53 : RQ := (.seq (.reg q53_4) q53_42)
theorem l53 : ∃ c, f53.body = some c ∧ liteC prog f53.ntmps c = some q53 := ⟨_, rfl, by kernel_rfl⟩
theorem e53 : prog.funcs[53]? = some f53 := by kernel_rfl
theorem r53 : mapO (resOf prog) f53.results.toList = some [(.c 4 true 12), (.t 5)] := by kernel_rfl
theorem n53 : f53.ntmps = 30 := rfl

abbrev q54_1 : List RP := ⟨(some 6), none, false, (.mv (.c (.bool false)))⟩ :: []
abbrev q54_2 : List RP := ⟨(some 3), none, false, (.box (.t 0))⟩ :: q54_1
abbrev q54_3 : List RP := ⟨(some 6), none, false, (.mv (.t 24))⟩ :: []
abbrev q54_4 : List RP := ⟨(some 24), none, false, (.pick (.t 15) (.t 23) (.c (.bool false)))⟩ :: q54_3
abbrev q54_5 : List RP := ⟨(some 23), (some (15, true)), false, (.cal 50 [(.c (.int .i64 0)), (.t 20), (.t 22)])⟩ :: q54_4
abbrev q54_6 : List RP := ⟨(some 22), (some (15, true)), true, (.bslice 1 1 [(.int .i64 0)] [(0, (.t 21))])⟩ :: q54_5
abbrev q54_7 : List RP := ⟨(some 21), (some (15, true)), false, (.mv (.t 2))⟩ :: q54_6
abbrev q54_8 : List RP := ⟨(some 20), (some (15, true)), true, (.bin .sub (.t 19) (.c (.int .i64 1)))⟩ :: q54_7
abbrev q54_9 : List RP := ⟨(some 19), (some (15, true)), false, (.len (.t 18))⟩ :: q54_8
abbrev q54_10 : List RP := ⟨(some 18), (some (15, true)), false, (.ld false 1 (.t 17))⟩ :: q54_9
abbrev q54_11 : List RP := ⟨(some 17), (some (15, true)), false, (.fa 2 (.t 16))⟩ :: q54_10
abbrev q54_12 : List RP := ⟨(some 16), (some (15, true)), false, (.fa 4 (.t 3))⟩ :: q54_11
abbrev q54_13 : List RP := ⟨(some 15), none, false, (.mv (.t 14))⟩ :: q54_12
abbrev q54_14 : List RP := ⟨(some 14), none, false, (.cal 50 [(.c (.int .i64 0)), (.t 11), (.t 13)])⟩ :: q54_13
abbrev q54_15 : List RP := ⟨(some 13), none, true, (.bslice 1 1 [(.int .i64 0)] [(0, (.t 12))])⟩ :: q54_14
abbrev q54_16 : List RP := ⟨(some 12), none, false, (.mv (.t 1))⟩ :: q54_15
abbrev q54_17 : List RP := ⟨(some 11), none, true, (.bin .sub (.t 10) (.c (.int .i64 1)))⟩ :: q54_16
abbrev q54_18 : List RP := ⟨(some 10), none, false, (.len (.t 9))⟩ :: q54_17
abbrev q54_19 : List RP := ⟨(some 9), none, false, (.ld false 1 (.t 8))⟩ :: q54_18
abbrev q54_20 : List RP := ⟨(some 8), none, false, (.fa 1 (.t 7))⟩ :: q54_19
abbrev q54_21 : List RP := ⟨(some 7), none, false, (.fa 4 (.t 3))⟩ :: q54_20
abbrev q54_22 : RQ := (.seq (.reg q54_21) .ret)
abbrev q54 : RQ := (.seq (.reg q54_2) q54_22)
theorem l54 : ∃ c, f54.body = some c ∧ liteC prog f54.ntmps c = some q54 := ⟨_, rfl, by kernel_rfl⟩
theorem e54 : prog.funcs[54]? = some f54 := by kernel_rfl
theorem r54 : mapO (resOf prog) f54.results.toList = some [(.t 6)] := by kernel_rfl
theorem n54 : f54.ntmps = 25 := rfl

abbrev q56_1 : List RP := ⟨(some 2), none, false, (.mv (.c (.bool false)))⟩ :: []
abbrev q56_2 : List RP := ⟨(some 1), none, false, (.box (.t 0))⟩ :: q56_1
abbrev q56_3 : List RP := ⟨(some 45), none, false, (.pick (.t 41) (.c (.bool true)) (.t 44))⟩ :: []
abbrev q56_4 : List RP := ⟨(some 44), (some (41, false)), false, (.bin .gtr (.t 43) (.c (.int .u64 4611686018427387904)))⟩ :: q56_3
abbrev q56_5 : List RP := ⟨(some 43), (some (41, false)), false, (.ld false 1 (.t 42))⟩ :: q56_4
abbrev q56_6 : List RP := ⟨(some 42), (some (41, false)), false, (.fa 4 (.t 1))⟩ :: q56_5
abbrev q56_7 : List RP := ⟨(some 41), none, false, (.mv (.t 40))⟩ :: q56_6
abbrev q56_8 : List RP := ⟨(some 40), none, false, (.pick (.t 36) (.c (.bool true)) (.t 39))⟩ :: q56_7
abbrev q56_9 : List RP := ⟨(some 39), (some (36, false)), false, (.bin .gtr (.t 38) (.c (.int .u8 5)))⟩ :: q56_8
abbrev q56_10 : List RP := ⟨(some 38), (some (36, false)), false, (.ld false 1 (.t 37))⟩ :: q56_9
abbrev q56_11 : List RP := ⟨(some 37), (some (36, false)), false, (.fa 3 (.t 1))⟩ :: q56_10
abbrev q56_12 : List RP := ⟨(some 36), none, false, (.mv (.t 35))⟩ :: q56_11
abbrev q56_13 : List RP := ⟨(some 35), none, false, (.pick (.t 31) (.c (.bool true)) (.t 34))⟩ :: q56_12
abbrev q56_14 : List RP := ⟨(some 34), (some (31, false)), false, (.bin .lss (.t 33) (.c (.int .u8 1)))⟩ :: q56_13
abbrev q56_15 : List RP := ⟨(some 33), (some (31, false)), false, (.ld false 1 (.t 32))⟩ :: q56_14
abbrev q56_16 : List RP := ⟨(some 32), (some (31, false)), false, (.fa 3 (.t 1))⟩ :: q56_15
abbrev q56_17 : List RP := ⟨(some 31), none, false, (.mv (.t 30))⟩ :: q56_16
abbrev q56_18 : List RP := ⟨(some 30), none, false, (.pick (.t 26) (.c (.bool true)) (.t 29))⟩ :: q56_17
abbrev q56_19 : List RP := ⟨(some 29), (some (26, false)), false, (.bin .gtr (.t 28) (.c (.int .i64 2)))⟩ :: q56_18
abbrev q56_20 : List RP := ⟨(some 28), (some (26, false)), false, (.ld false 1 (.t 27))⟩ :: q56_19
abbrev q56_21 : List RP := ⟨(some 27), (some (26, false)), false, (.fa 2 (.t 1))⟩ :: q56_20
abbrev q56_22 : List RP := ⟨(some 26), none, false, (.mv (.t 25))⟩ :: q56_21
abbrev q56_23 : List RP := ⟨(some 25), none, false, (.pick (.t 21) (.c (.bool true)) (.t 24))⟩ :: q56_22
abbrev q56_24 : List RP := ⟨(some 24), (some (21, false)), false, (.bin .lss (.t 23) (.c (.int .i64 0)))⟩ :: q56_23
abbrev q56_25 : List RP := ⟨(some 23), (some (21, false)), false, (.ld false 1 (.t 22))⟩ :: q56_24
abbrev q56_26 : List RP := ⟨(some 22), (some (21, false)), false, (.fa 2 (.t 1))⟩ :: q56_25
abbrev q56_27 : List RP := ⟨(some 21), none, false, (.mv (.t 20))⟩ :: q56_26
abbrev q56_28 : List RP := ⟨(some 20), none, false, (.pick (.t 16) (.c (.bool true)) (.t 19))⟩ :: q56_27
abbrev q56_29 : List RP := ⟨(some 19), (some (16, false)), false, (.bin .gtr (.t 18) (.c (.int .i64 2)))⟩ :: q56_28
abbrev q56_30 : List RP := ⟨(some 18), (some (16, false)), false, (.ld false 1 (.t 17))⟩ :: q56_29
abbrev q56_31 : List RP := ⟨(some 17), (some (16, false)), false, (.fa 1 (.t 1))⟩ :: q56_30
abbrev q56_32 : List RP := ⟨(some 16), none, false, (.mv (.t 15))⟩ :: q56_31
abbrev q56_33 : List RP := ⟨(some 15), none, false, (.pick (.t 11) (.c (.bool true)) (.t 14))⟩ :: q56_32
abbrev q56_34 : List RP := ⟨(some 14), (some (11, false)), false, (.bin .lss (.t 13) (.c (.int .i64 0)))⟩ :: q56_33
abbrev q56_35 : List RP := ⟨(some 13), (some (11, false)), false, (.ld false 1 (.t 12))⟩ :: q56_34
abbrev q56_36 : List RP := ⟨(some 12), (some (11, false)), false, (.fa 1 (.t 1))⟩ :: q56_35
abbrev q56_37 : List RP := ⟨(some 11), none, false, (.mv (.t 10))⟩ :: q56_36
abbrev q56_38 : List RP := ⟨(some 10), none, false, (.pick (.t 6) (.c (.bool true)) (.t 9))⟩ :: q56_37
abbrev q56_39 : List RP := ⟨(some 9), (some (6, false)), false, (.bin .gtr (.t 8) (.c (.int .i64 64)))⟩ :: q56_38
abbrev q56_40 : List RP := ⟨(some 8), (some (6, false)), false, (.ld false 1 (.t 7))⟩ :: q56_39
abbrev q56_41 : List RP := ⟨(some 7), (some (6, false)), false, (.fa 0 (.t 1))⟩ :: q56_40
abbrev q56_42 : List RP := ⟨(some 6), none, false, (.mv (.t 5))⟩ :: q56_41
abbrev q56_43 : List RP := ⟨(some 5), none, false, (.bin .lss (.t 4) (.c (.int .i64 1)))⟩ :: q56_42
abbrev q56_44 : List RP := ⟨(some 4), none, false, (.ld false 1 (.t 3))⟩ :: q56_43
abbrev q56_45 : List RP := ⟨(some 3), none, false, (.fa 0 (.t 1))⟩ :: q56_44
abbrev q56_46 : List RP := ⟨(some 2), none, false, (.mv (.c (.bool false)))⟩ :: []
abbrev q56_47 : RQ := (.seq (.reg q56_46) .ret)
abbrev q56_48 : RQ := (.cond (.t 45) q56_47 .skip)
abbrev q56_49 : List RP := ⟨(some 48), none, false, (.bin .eql (.t 47) (.c (.int .u8 4)))⟩ :: []
abbrev q56_50 : List RP := ⟨(some 47), none, false, (.ld false 1 (.t 46))⟩ :: q56_49
abbrev q56_51 : List RP := ⟨(some 46), none, false, (.fa 3 (.t 1))⟩ :: q56_50
abbrev q56_52 : List RP := ⟨(some 2), none, false, (.mv (.t 56))⟩ :: []
abbrev q56_53 : List RP := ⟨(some 56), none, false, (.pick (.t 52) (.t 55) (.c (.bool false)))⟩ :: q56_52
abbrev q56_54 : List RP := ⟨(some 55), (some (52, true)), false, (.bin .leq (.t 54) (.c (.int .u64 4611686018427387904)))⟩ :: q56_53
abbrev q56_55 : List RP := ⟨(some 54), (some (52, true)), false, (.ld false 1 (.t 53))⟩ :: q56_54
abbrev q56_56 : List RP := ⟨(some 53), (some (52, true)), false, (.fa 5 (.t 1))⟩ :: q56_55
abbrev q56_57 : List RP := ⟨(some 52), none, false, (.mv (.t 51))⟩ :: q56_56
abbrev q56_58 : List RP := ⟨(some 51), none, false, (.bin .geq (.t 50) (.c (.int .u64 1)))⟩ :: q56_57
abbrev q56_59 : List RP := ⟨(some 50), none, false, (.ld false 1 (.t 49))⟩ :: q56_58
abbrev q56_60 : List RP := ⟨(some 49), none, false, (.fa 5 (.t 1))⟩ :: q56_59
abbrev q56_61 : RQ := (.seq (.reg q56_60) .ret)
abbrev q56_62 : RQ := (.cond (.t 48) q56_61 .skip)
abbrev q56_63 : List RP := ⟨(some 2), none, false, (.mv (.t 59))⟩ :: []
abbrev q56_64 : List RP := ⟨(some 59), none, false, (.bin .eql (.t 58) (.c (.int .u64 0)))⟩ :: q56_63
abbrev q56_65 : List RP := ⟨(some 58), none, false, (.ld false 1 (.t 57))⟩ :: q56_64
abbrev q56_66 : List RP := ⟨(some 57), none, false, (.fa 5 (.t 1))⟩ :: q56_65
abbrev q56_67 : RQ := (.seq (.reg q56_66) .ret)
abbrev q56_68 : RQ := (.seq (.seq (.reg q56_51) q56_62) q56_67)
abbrev q56_69 : RQ := (.seq (.seq (.reg q56_45) q56_48) q56_68)
abbrev q56 : RQ := (.seq (.reg q56_2) q56_69)
theorem l56 : ∃ c, f56.body = some c ∧ liteC prog f56.ntmps c = some q56 := ⟨_, rfl, by kernel_rfl⟩
theorem e56 : prog.funcs[56]? = some f56 := by kernel_rfl
theorem r56 : mapO (resOf prog) f56.results.toList = some [(.t 2)] := by kernel_rfl
theorem n56 : f56.ntmps = 60 := rfl

abbrev q57_1 : List RP := ⟨(some 2), none, false, (.mv (.c (.bool false)))⟩ :: []
abbrev q57_2 : List RP := ⟨(some 1), none, false, (.box (.t 0))⟩ :: q57_1
abbrev q57_3 : List RP := ⟨(some 5), none, false, (.bin .eql (.t 4) (.c (.int .u8 4)))⟩ :: []
abbrev q57_4 : List RP := ⟨(some 4), none, false, (.ld false 1 (.t 3))⟩ :: q57_3
abbrev q57_5 : List RP := ⟨(some 3), none, false, (.fa 3 (.t 1))⟩ :: q57_4
abbrev q57_6 : List RP := ⟨(some 2), none, false, (.mv (.t 13))⟩ :: []
abbrev q57_7 : List RP := ⟨(some 13), none, false, (.pick (.t 9) (.t 12) (.c (.bool false)))⟩ :: q57_6
abbrev q57_8 : List RP := ⟨(some 12), (some (9, true)), false, (.bin .leq (.t 11) (.c (.int .u64 4611686018427387904)))⟩ :: q57_7
abbrev q57_9 : List RP := ⟨(some 11), (some (9, true)), false, (.ld false 1 (.t 10))⟩ :: q57_8
abbrev q57_10 : List RP := ⟨(some 10), (some (9, true)), false, (.fa 5 (.t 1))⟩ :: q57_9
abbrev q57_11 : List RP := ⟨(some 9), none, false, (.mv (.t 8))⟩ :: q57_10
abbrev q57_12 : List RP := ⟨(some 8), none, false, (.bin .geq (.t 7) (.c (.int .u64 1)))⟩ :: q57_11
abbrev q57_13 : List RP := ⟨(some 7), none, false, (.ld false 1 (.t 6))⟩ :: q57_12
abbrev q57_14 : List RP := ⟨(some 6), none, false, (.fa 5 (.t 1))⟩ :: q57_13
abbrev q57_15 : RQ := (.seq (.reg q57_14) .ret)
abbrev q57_16 : RQ := (.cond (.t 5) q57_15 .skip)
abbrev q57_17 : List RP := ⟨(some 2), none, false, (.mv (.t 16))⟩ :: []
abbrev q57_18 : List RP := ⟨(some 16), none, false, (.bin .eql (.t 15) (.c (.int .u64 0)))⟩ :: q57_17
abbrev q57_19 : List RP := ⟨(some 15), none, false, (.ld false 1 (.t 14))⟩ :: q57_18
abbrev q57_20 : List RP := ⟨(some 14), none, false, (.fa 5 (.t 1))⟩ :: q57_19
abbrev q57_21 : RQ := (.seq (.reg q57_20) .ret)
abbrev q57_22 : RQ := (.seq (.seq (.reg q57_5) q57_16) q57_21)
abbrev q57 : RQ := (.seq (.reg q57_2) q57_22)
theorem l57 : ∃ c, f57.body = some c ∧ liteC prog f57.ntmps c = some q57 := ⟨_, rfl, by kernel_rfl⟩
theorem e57 : prog.funcs[57]? = some f57 := by kernel_rfl
theorem r57 : mapO (resOf prog) f57.results.toList = some [(.t 2)] := by kernel_rfl
theorem n57 : f57.ntmps = 17 := rfl

abbrev q58_1 : List RP := ⟨(some 4), none, false, (.mv (.c (.bool false)))⟩ :: []
abbrev q58_2 : List RP := ⟨(some 4), none, false, (.mv (.t 34))⟩ :: []
abbrev q58_3 : List RP := ⟨(some 34), none, false, (.pick (.t 27) (.c (.bool true)) (.t 33))⟩ :: q58_2
abbrev q58_4 : List RP := ⟨(some 33), (some (27, false)), false, (.pick (.t 30) (.t 32) (.c (.bool false)))⟩ :: q58_3
abbrev q58_5 : List RP := ⟨(some 32), (some (30, true)), false, (.bin .eql (.t 31) (.c (.int .u8 4)))⟩ :: q58_4
abbrev q58_6 : List RP := ⟨(some 31), (some (30, true)), false, (.mv (.t 1))⟩ :: q58_5
abbrev q58_7 : List RP := ⟨(some 30), (some (27, false)), false, (.mv (.t 29))⟩ :: q58_6
abbrev q58_8 : List RP := ⟨(some 29), (some (27, false)), false, (.bin .eql (.t 28) (.c (.int .u8 3)))⟩ :: q58_7
abbrev q58_9 : List RP := ⟨(some 28), (some (27, false)), false, (.mv (.t 0))⟩ :: q58_8
abbrev q58_10 : List RP := ⟨(some 27), none, false, (.mv (.t 26))⟩ :: q58_9
abbrev q58_11 : List RP := ⟨(some 26), none, false, (.pick (.t 19) (.c (.bool true)) (.t 25))⟩ :: q58_10
abbrev q58_12 : List RP := ⟨(some 25), (some (19, false)), false, (.pick (.t 22) (.t 24) (.c (.bool false)))⟩ :: q58_11
abbrev q58_13 : List RP := ⟨(some 24), (some (22, true)), false, (.bin .eql (.t 23) (.c (.int .u8 3)))⟩ :: q58_12
abbrev q58_14 : List RP := ⟨(some 23), (some (22, true)), false, (.mv (.t 1))⟩ :: q58_13
abbrev q58_15 : List RP := ⟨(some 22), (some (19, false)), false, (.mv (.t 21))⟩ :: q58_14
abbrev q58_16 : List RP := ⟨(some 21), (some (19, false)), false, (.bin .eql (.t 20) (.c (.int .u8 2)))⟩ :: q58_15
abbrev q58_17 : List RP := ⟨(some 20), (some (19, false)), false, (.mv (.t 0))⟩ :: q58_16
abbrev q58_18 : List RP := ⟨(some 19), none, false, (.mv (.t 18))⟩ :: q58_17
abbrev q58_19 : List RP := ⟨(some 18), none, false, (.pick (.t 11) (.c (.bool true)) (.t 17))⟩ :: q58_18
abbrev q58_20 : List RP := ⟨(some 17), (some (11, false)), false, (.pick (.t 14) (.t 16) (.c (.bool false)))⟩ :: q58_19
abbrev q58_21 : List RP := ⟨(some 16), (some (14, true)), false, (.bin .eql (.t 15) (.c (.int .u8 5)))⟩ :: q58_20
abbrev q58_22 : List RP := ⟨(some 15), (some (14, true)), false, (.mv (.t 1))⟩ :: q58_21
abbrev q58_23 : List RP := ⟨(some 14), (some (11, false)), false, (.mv (.t 13))⟩ :: q58_22
abbrev q58_24 : List RP := ⟨(some 13), (some (11, false)), false, (.bin .eql (.t 12) (.c (.int .u8 1)))⟩ :: q58_23
abbrev q58_25 : List RP := ⟨(some 12), (some (11, false)), false, (.mv (.t 0))⟩ :: q58_24
abbrev q58_26 : List RP := ⟨(some 11), none, false, (.mv (.t 10))⟩ :: q58_25
abbrev q58_27 : List RP := ⟨(some 10), none, false, (.pick (.t 7) (.t 9) (.c (.bool false)))⟩ :: q58_26
abbrev q58_28 : List RP := ⟨(some 9), (some (7, true)), false, (.bin .eql (.t 8) (.c (.int .u8 2)))⟩ :: q58_27
abbrev q58_29 : List RP := ⟨(some 8), (some (7, true)), false, (.mv (.t 1))⟩ :: q58_28
abbrev q58_30 : List RP := ⟨(some 7), none, false, (.mv (.t 6))⟩ :: q58_29
abbrev q58_31 : List RP := ⟨(some 6), none, false, (.bin .eql (.t 5) (.c (.int .u8 1)))⟩ :: q58_30
abbrev q58_32 : List RP := ⟨(some 5), none, false, (.mv (.t 0))⟩ :: q58_31
abbrev q58_33 : RQ := (.seq (.reg q58_32) .ret)
abbrev q58 : RQ := (.seq (.reg q58_1) q58_33)
theorem l58 : ∃ c, f58.body = some c ∧ liteC prog f58.ntmps c = some q58 := ⟨_, rfl, by kernel_rfl⟩
theorem e58 : prog.funcs[58]? = some f58 := by kernel_rfl
theorem r58 : mapO (resOf prog) f58.results.toList = some [(.t 4)] := by kernel_rfl
theorem n58 : f58.ntmps = 35 := rfl

abbrev q59_1 : List RP := ⟨(some 8), none, false, (.mv (.c (.int .i64 0)))⟩ :: []
abbrev q59_2 : List RP := ⟨(some 4), none, false, (.box (.t 0))⟩ :: q59_1
abbrev q59_3 : List RP := ⟨(some 9), none, false, (.mv (.t 13))⟩ :: []
abbrev q59_4 : List RP := ⟨(some 13), none, false, (.cal 35 [(.t 10), (.t 11), (.t 12)])⟩ :: q59_3
abbrev q59_5 : List RP := ⟨(some 12), none, true, (.mv (.t 2))⟩ :: q59_4
abbrev q59_6 : List RP := ⟨(some 11), none, true, (.mv (.t 1))⟩ :: q59_5
abbrev q59_7 : List RP := ⟨(some 10), none, true, (.ld true 2 (.t 4))⟩ :: q59_6
abbrev q59_8 : List RP := ⟨(some 19), none, false, (.pick (.t 16) (.t 18) (.c (.bool false)))⟩ :: []
abbrev q59_9 : List RP := ⟨(some 18), (some (16, true)), false, (.bin .gtr (.t 17) (.c (.int .u64 4611686018427387904)))⟩ :: q59_8
abbrev q59_10 : List RP := ⟨(some 17), (some (16, true)), false, (.mv (.t 3))⟩ :: q59_9
abbrev q59_11 : List RP := ⟨(some 16), none, false, (.mv (.t 15))⟩ :: q59_10
abbrev q59_12 : List RP := ⟨(some 15), none, false, (.bin .eql (.t 14) (.c (.int .i64 0)))⟩ :: q59_11
abbrev q59_13 : List RP := ⟨(some 14), none, false, (.mv (.t 9))⟩ :: q59_12
abbrev q59_14 : List RP := ⟨(some 8), none, false, (.mv (.c (.int .i64 2)))⟩ :: []
abbrev q59_15 : RQ := (.seq (.reg q59_14) .ret)
abbrev q59_16 : RQ := (.cond (.t 19) q59_15 .skip)
abbrev q59_17 : List RP := ⟨(some 8), none, false, (.mv (.t 20))⟩ :: []
abbrev q59_18 : List RP := ⟨(some 20), none, false, (.mv (.t 9))⟩ :: q59_17
abbrev q59_19 : RQ := (.seq (.reg q59_18) .ret)
abbrev q59_20 : RQ := (.seq (.seq (.reg q59_13) q59_16) q59_19)
abbrev q59_21 : RQ := (.seq (.reg q59_7) q59_20)
abbrev q59 : RQ := (.seq (.reg q59_2) q59_21)
theorem l59 : ∃ c, f59.body = some c ∧ liteC prog f59.ntmps c = some q59 := ⟨_, rfl, by kernel_rfl⟩
theorem e59 : prog.funcs[59]? = some f59 := by kernel_rfl
theorem r59 : mapO (resOf prog) f59.results.toList = some [(.t 8)] := by kernel_rfl
theorem n59 : f59.ntmps = 21 := rfl

abbrev q60_1 : List RP := ⟨(some 6), none, false, (.mv (.c (.int .i64 0)))⟩ :: []
abbrev q60_2 : List RP := ⟨(some 3), none, false, (.box (.t 0))⟩ :: q60_1
abbrev q60_3 : List (Bool × RP) := (false, ⟨(some 13), none, false, (.bin .eql (.t 10) (.t 12))⟩) :: []
abbrev q60_4 : List (Bool × RP) := (false, ⟨(some 12), none, false, (.ld false 1 (.t 11))⟩) :: q60_3
abbrev q60_5 : List (Bool × RP) := (false, ⟨(some 11), none, false, (.fa 0 (.t 3))⟩) :: q60_4
abbrev q60_6 : List (Bool × RP) := (false, ⟨(some 10), none, false, (.bin .quo (.t 7) (.t 9))⟩) :: q60_5
abbrev q60_7 : List (Bool × RP) := (false, ⟨(some 9), none, false, (.cv .u64 (.t 8))⟩) :: q60_6
abbrev q60_8 : List (Bool × RP) := (false, ⟨(some 8), none, false, (.mv (.t 1))⟩) :: q60_7
abbrev q60_9 : List (Bool × RP) := (false, ⟨(some 7), none, false, (.mv (.t 2))⟩) :: q60_8
abbrev q60_10 : List RP := ⟨(some 6), none, false, (.mv (.t 15))⟩ :: []
abbrev q60_11 : List RP := ⟨(some 15), none, false, (.ld false 1 (.t 14))⟩ :: q60_10
abbrev q60_12 : List RP := ⟨(some 14), none, false, (.fa 1 (.t 3))⟩ :: q60_11
abbrev q60_13 : RQ := (.seq (.reg q60_12) .ret)
abbrev q60_14 : RQ := (.cond (.t 13) q60_13 .skip)
abbrev q60_15 : List RP := ⟨(some 6), none, false, (.mv (.c (.int .i64 0)))⟩ :: []
abbrev q60_16 : RQ := (.seq (.reg q60_15) .ret)
abbrev q60_17 : RQ := (.seq (.seq (.drw q60_9 []) q60_14) q60_16)
abbrev q60 : RQ := (.seq (.reg q60_2) q60_17)
theorem l60 : ∃ c, f60.body = some c ∧ liteC prog f60.ntmps c = some q60 := ⟨_, rfl, by kernel_rfl⟩
theorem e60 : prog.funcs[60]? = some f60 := by kernel_rfl
theorem r60 : mapO (resOf prog) f60.results.toList = some [(.t 6)] := by kernel_rfl
theorem n60 : f60.ntmps = 16 := rfl

abbrev q61_1 : List RP := ⟨(some 12), none, false, (.mv (.c (.int .i64 0)))⟩ :: []
abbrev q61_2 : List RP := ⟨(some 11), none, false, (.mv (.c (.int .i64 0)))⟩ :: q61_1
abbrev q61_3 : List RP := ⟨(some 10), none, false, (.alloc [.nils, .nils, (.int .u64 0), (.int .i64 0)])⟩ :: q61_2
abbrev q61_4 : List RP := ⟨(some 6), none, false, (.box (.t 1))⟩ :: q61_3
abbrev q61_5 : List RP := ⟨(some 5), none, false, (.box (.t 0))⟩ :: q61_4
abbrev q61_6 : List RP := ⟨(some 13), none, false, (.mv (.t 20))⟩ :: []
abbrev q61_7 : List RP := ⟨(some 20), none, false, (.cal 38 [(.t 18), (.t 19)])⟩ :: q61_6
abbrev q61_8 : List RP := ⟨(some 19), none, true, (.ld true 4 (.t 6))⟩ :: q61_7
abbrev q61_9 : List RP := ⟨(some 18), none, true, (.ld true 8 (.t 5))⟩ :: q61_8
abbrev q61_10 : List RP := ⟨(some 22), none, false, (.bin .neq (.t 21) (.c (.int .i64 0)))⟩ :: []
abbrev q61_11 : List RP := ⟨(some 21), none, false, (.mv (.t 13))⟩ :: q61_10
abbrev q61_12 : List RP := ⟨(some 12), none, false, (.mv (.t 24))⟩ :: []
abbrev q61_13 : List RP := ⟨(some 11), none, false, (.mv (.c (.int .i64 0)))⟩ :: q61_12
abbrev q61_14 : List RP := ⟨none, none, false, (.st 4 (.t 10) (.t 23))⟩ :: q61_13
abbrev q61_15 : List RP := ⟨(some 24), none, false, (.mv (.t 13))⟩ :: q61_14
abbrev q61_16 : List RP := ⟨(some 23), none, false, (.build [.nils, .nils, (.int .u64 0), (.int .i64 0)] [])⟩ :: q61_15
abbrev q61_17 : RQ := (.seq (.reg q61_16) .ret)
abbrev q61_18 : RQ := (.cond (.t 22) q61_17 .skip)
abbrev q61_19 : List RP := ⟨(some 48), none, false, (.pick (.t 45) (.c (.bool true)) (.t 47))⟩ :: []
abbrev q61_20 : List RP := ⟨(some 47), (some (45, false)), false, (.bin .gtr (.t 46) (.c (.int .u64 4611686018427387904)))⟩ :: q61_19
abbrev q61_21 : List RP := ⟨(some 46), (some (45, false)), false, (.mv (.t 4))⟩ :: q61_20
abbrev q61_22 : List RP := ⟨(some 45), none, false, (.mv (.t 44))⟩ :: q61_21
abbrev q61_23 : List RP := ⟨(some 44), none, false, (.pick (.t 38) (.c (.bool true)) (.t 43))⟩ :: q61_22
abbrev q61_24 : List RP := ⟨(some 43), (some (38, false)), false, (.bin .geq (.t 39) (.t 42))⟩ :: q61_23
abbrev q61_25 : List RP := ⟨(some 42), (some (38, false)), false, (.len (.t 41))⟩ :: q61_24
abbrev q61_26 : List RP := ⟨(some 41), (some (38, false)), false, (.ld false 1 (.t 40))⟩ :: q61_25
abbrev q61_27 : List RP := ⟨(some 40), (some (38, false)), false, (.fa 2 (.t 5))⟩ :: q61_26
abbrev q61_28 : List RP := ⟨(some 39), (some (38, false)), false, (.mv (.t 3))⟩ :: q61_27
abbrev q61_29 : List RP := ⟨(some 38), none, false, (.mv (.t 37))⟩ :: q61_28
abbrev q61_30 : List RP := ⟨(some 37), none, false, (.pick (.t 34) (.c (.bool true)) (.t 36))⟩ :: q61_29
abbrev q61_31 : List RP := ⟨(some 36), (some (34, false)), false, (.bin .lss (.t 35) (.c (.int .i64 0)))⟩ :: q61_30
abbrev q61_32 : List RP := ⟨(some 35), (some (34, false)), false, (.mv (.t 3))⟩ :: q61_31
abbrev q61_33 : List RP := ⟨(some 34), none, false, (.mv (.t 33))⟩ :: q61_32
abbrev q61_34 : List RP := ⟨(some 33), none, false, (.pick (.t 27) (.c (.bool true)) (.t 32))⟩ :: q61_33
abbrev q61_35 : List RP := ⟨(some 32), (some (27, false)), false, (.bin .geq (.t 28) (.t 31))⟩ :: q61_34
abbrev q61_36 : List RP := ⟨(some 31), (some (27, false)), false, (.len (.t 30))⟩ :: q61_35
abbrev q61_37 : List RP := ⟨(some 30), (some (27, false)), false, (.ld false 1 (.t 29))⟩ :: q61_36
abbrev q61_38 : List RP := ⟨(some 29), (some (27, false)), false, (.fa 1 (.t 5))⟩ :: q61_37
abbrev q61_39 : List RP := ⟨(some 28), (some (27, false)), false, (.mv (.t 2))⟩ :: q61_38
abbrev q61_40 : List RP := ⟨(some 27), none, false, (.mv (.t 26))⟩ :: q61_39
abbrev q61_41 : List RP := ⟨(some 26), none, false, (.bin .lss (.t 25) (.c (.int .i64 0)))⟩ :: q61_40
abbrev q61_42 : List RP := ⟨(some 25), none, false, (.mv (.t 2))⟩ :: q61_41
abbrev q61_43 : List RP := ⟨(some 12), none, false, (.mv (.c (.int .i64 2)))⟩ :: []
abbrev q61_44 : List RP := ⟨(some 11), none, false, (.mv (.c (.int .i64 0)))⟩ :: q61_43
abbrev q61_45 : List RP := ⟨none, none, false, (.st 4 (.t 10) (.t 49))⟩ :: q61_44
abbrev q61_46 : List RP := ⟨(some 49), none, false, (.build [.nils, .nils, (.int .u64 0), (.int .i64 0)] [])⟩ :: q61_45
abbrev q61_47 : RQ := (.seq (.reg q61_46) .ret)
abbrev q61_48 : RQ := (.cond (.t 48) q61_47 .skip)
abbrev q61_49 : List RP := ⟨(some 53), none, false, (.bin .eql (.t 52) (.c (.int .i64 64)))⟩ :: []
abbrev q61_50 : List RP := ⟨(some 52), none, false, (.len (.t 51))⟩ :: q61_49
abbrev q61_51 : List RP := ⟨(some 51), none, false, (.ld false 1 (.t 50))⟩ :: q61_50
abbrev q61_52 : List RP := ⟨(some 50), none, false, (.fa 0 (.t 6))⟩ :: q61_51
abbrev q61_53 : List RP := ⟨(some 12), none, false, (.mv (.c (.int .i64 4)))⟩ :: []
abbrev q61_54 : List RP := ⟨(some 11), none, false, (.mv (.c (.int .i64 0)))⟩ :: q61_53
abbrev q61_55 : List RP := ⟨none, none, false, (.st 4 (.t 10) (.t 54))⟩ :: q61_54
abbrev q61_56 : List RP := ⟨(some 54), none, false, (.build [.nils, .nils, (.int .u64 0), (.int .i64 0)] [])⟩ :: q61_55
abbrev q61_57 : RQ := (.seq (.reg q61_56) .ret)
abbrev q61_58 : RQ := (.cond (.t 53) q61_57 .skip)
abbrev q61_59 : List RP := ⟨(some 60), none, false, (.bin .eql (.t 57) (.t 59))⟩ :: []
abbrev q61_60 : List RP := ⟨(some 59), none, false, (.ld false 1 (.t 58))⟩ :: q61_59
abbrev q61_61 : List RP := ⟨(some 58), none, false, (.fa 5 (.t 5))⟩ :: q61_60
abbrev q61_62 : List RP := ⟨(some 57), none, false, (.len (.t 56))⟩ :: q61_61
abbrev q61_63 : List RP := ⟨(some 56), none, false, (.ld false 1 (.t 55))⟩ :: q61_62
abbrev q61_64 : List RP := ⟨(some 55), none, false, (.fa 1 (.t 6))⟩ :: q61_63
abbrev q61_65 : List RP := ⟨(some 12), none, false, (.mv (.c (.int .i64 9)))⟩ :: []
abbrev q61_66 : List RP := ⟨(some 11), none, false, (.mv (.c (.int .i64 0)))⟩ :: q61_65
abbrev q61_67 : List RP := ⟨none, none, false, (.st 4 (.t 10) (.t 61))⟩ :: q61_66
abbrev q61_68 : List RP := ⟨(some 61), none, false, (.build [.nils, .nils, (.int .u64 0), (.int .i64 0)] [])⟩ :: q61_67
abbrev q61_69 : RQ := (.seq (.reg q61_68) .ret)
abbrev q61_70 : RQ := (.cond (.t 60) q61_69 .skip)
abbrev q61_71 : List RP := ⟨(some 13), none, false, (.mv (.t 72))⟩ :: []
abbrev q61_72 : List RP := ⟨none, none, false, (.st 2 (.t 14) (.t 71))⟩ :: q61_71
abbrev q61_73 : List RP := ⟨(some 14), none, false, (.alloc [(.int .u64 0), (.int .i64 0)])⟩ :: q61_72
abbrev q61_74 : List RP := ⟨(some 72), none, false, (.ext (.t 62) 1)⟩ :: q61_73
abbrev q61_75 : List RP := ⟨(some 71), none, false, (.ext (.t 62) 0)⟩ :: q61_74
abbrev q61_76 : List RP := ⟨(some 62), none, false, (.mv (.t 70))⟩ :: q61_75
abbrev q61_77 : List RP := ⟨(some 70), none, false, (.cal 34 [(.t 64), (.t 66), (.t 68), (.t 69)])⟩ :: q61_76
abbrev q61_78 : List RP := ⟨(some 69), none, true, (.mv (.t 4))⟩ :: q61_77
abbrev q61_79 : List RP := ⟨(some 68), none, true, (.ld false 1 (.t 67))⟩ :: q61_78
abbrev q61_80 : List RP := ⟨(some 67), none, false, (.fa 6 (.t 5))⟩ :: q61_79
abbrev q61_81 : List RP := ⟨(some 66), none, true, (.ld false 1 (.t 65))⟩ :: q61_80
abbrev q61_82 : List RP := ⟨(some 65), none, false, (.fa 7 (.t 5))⟩ :: q61_81
abbrev q61_83 : List RP := ⟨(some 64), none, true, (.ld true 2 (.t 63))⟩ :: q61_82
abbrev q61_84 : List RP := ⟨(some 63), none, false, (.fa 2 (.t 6))⟩ :: q61_83
abbrev q61_85 : List RP := ⟨(some 74), none, false, (.bin .neq (.t 73) (.c (.int .i64 0)))⟩ :: []
abbrev q61_86 : List RP := ⟨(some 73), none, false, (.mv (.t 13))⟩ :: q61_85
abbrev q61_87 : List RP := ⟨(some 12), none, false, (.mv (.t 76))⟩ :: []
abbrev q61_88 : List RP := ⟨(some 11), none, false, (.mv (.c (.int .i64 0)))⟩ :: q61_87
abbrev q61_89 : List RP := ⟨none, none, false, (.st 4 (.t 10) (.t 75))⟩ :: q61_88
abbrev q61_90 : List RP := ⟨(some 76), none, false, (.mv (.t 13))⟩ :: q61_89
abbrev q61_91 : List RP := ⟨(some 75), none, false, (.build [.nils, .nils, (.int .u64 0), (.int .i64 0)] [])⟩ :: q61_90
abbrev q61_92 : RQ := (.seq (.reg q61_91) .ret)
abbrev q61_93 : RQ := (.cond (.t 74) q61_92 .skip)
abbrev q61_94 : List RP := ⟨(some 15), none, false, (.mv (.t 80))⟩ :: []
abbrev q61_95 : List RP := ⟨(some 80), none, false, (.bin .add (.t 79) (.c (.int .i64 1)))⟩ :: q61_94
abbrev q61_96 : List RP := ⟨(some 79), none, false, (.len (.t 78))⟩ :: q61_95
abbrev q61_97 : List RP := ⟨(some 78), none, false, (.ld false 1 (.t 77))⟩ :: q61_96
abbrev q61_98 : List RP := ⟨(some 77), none, false, (.fa 0 (.t 6))⟩ :: q61_97
abbrev q61_99 : List RP := ⟨(some 17), none, false, (.mv (.t 88))⟩ :: []
abbrev q61_100 : List RP := ⟨none, none, false, (.st 6 (.t 16) (.t 87))⟩ :: q61_99
abbrev q61_101 : List RP := ⟨(some 16), none, false, (.alloc [(.int .i64 0), (.int .i64 0), (.int .i64 0), (.int .u8 0), (.int .u64 0), (.int .u64 0)])⟩ :: q61_100
abbrev q61_102 : List RP := ⟨(some 88), none, false, (.ext (.t 81) 1)⟩ :: q61_101
abbrev q61_103 : List RP := ⟨(some 87), none, false, (.ext (.t 81) 0)⟩ :: q61_102
abbrev q61_104 : List RP := ⟨(some 81), none, false, (.mv (.t 86))⟩ :: q61_103
abbrev q61_105 : List RP := ⟨(some 86), none, false, (.cal 30 [(.t 82), (.t 83), (.t 84), (.t 85)])⟩ :: q61_104
abbrev q61_106 : List RP := ⟨(some 85), none, true, (.mv (.t 4))⟩ :: q61_105
abbrev q61_107 : List RP := ⟨(some 84), none, true, (.mv (.t 3))⟩ :: q61_106
abbrev q61_108 : List RP := ⟨(some 83), none, true, (.mv (.t 2))⟩ :: q61_107
abbrev q61_109 : List RP := ⟨(some 82), none, true, (.mv (.t 15))⟩ :: q61_108
abbrev q61_110 : List RP := ⟨none, none, false, (.st 4 (.t 6) (.t 90))⟩ :: []
abbrev q61_111 : List RP := ⟨(some 90), none, false, (.cal 37 [(.t 89)])⟩ :: q61_110
abbrev q61_112 : List RP := ⟨(some 89), none, true, (.ld true 4 (.t 6))⟩ :: q61_111
abbrev q61_113 : List RP := ⟨none, none, false, (.st 1 (.t 96) (.t 95))⟩ :: []
abbrev q61_114 : List RP := ⟨(some 96), none, false, (.fa 0 (.t 6))⟩ :: q61_113
abbrev q61_115 : List RP := ⟨(some 95), none, false, (.app 6 48 [(.int .i64 0), (.int .i64 0), (.int .i64 0), (.int .u8 0), (.int .u64 0), (.int .u64 0)] (.t 92) (.t 94))⟩ :: q61_114
abbrev q61_116 : List RP := ⟨(some 94), none, true, (.bslice 6 1 [(.int .i64 0), (.int .i64 0), (.int .i64 0), (.int .u8 0), (.int .u64 0), (.int .u64 0)] [(0, (.t 93))])⟩ :: q61_115
abbrev q61_117 : List RP := ⟨(some 93), none, false, (.ld true 6 (.t 16))⟩ :: q61_116
abbrev q61_118 : List RP := ⟨(some 92), none, false, (.ld false 1 (.t 91))⟩ :: q61_117
abbrev q61_119 : List RP := ⟨(some 91), none, false, (.fa 0 (.t 6))⟩ :: q61_118
abbrev q61_120 : List RP := ⟨none, none, false, (.st 1 (.t 100) (.t 99))⟩ :: []
abbrev q61_121 : List RP := ⟨(some 100), none, false, (.fa 1 (.t 6))⟩ :: q61_120
abbrev q61_122 : List RP := ⟨(some 99), none, false, (.cal 70 [(.t 98)])⟩ :: q61_121
abbrev q61_123 : List RP := ⟨(some 98), none, true, (.ld false 1 (.t 97))⟩ :: q61_122
abbrev q61_124 : List RP := ⟨(some 97), none, false, (.fa 0 (.t 6))⟩ :: q61_123
abbrev q61_125 : List RP := ⟨none, none, false, (.st 2 (.t 102) (.t 101))⟩ :: []
abbrev q61_126 : List RP := ⟨(some 102), none, false, (.fa 2 (.t 6))⟩ :: q61_125
abbrev q61_127 : List RP := ⟨(some 101), none, false, (.ld true 2 (.t 14))⟩ :: q61_126
abbrev q61_128 : List RP := ⟨(some 12), none, false, (.mv (.c (.int .i64 0)))⟩ :: []
abbrev q61_129 : List RP := ⟨(some 11), none, false, (.mv (.t 104))⟩ :: q61_128
abbrev q61_130 : List RP := ⟨none, none, false, (.st 4 (.t 10) (.t 103))⟩ :: q61_129
abbrev q61_131 : List RP := ⟨(some 104), none, false, (.mv (.t 15))⟩ :: q61_130
abbrev q61_132 : List RP := ⟨(some 103), none, false, (.ld true 4 (.t 6))⟩ :: q61_131
abbrev q61_133 : RQ := (.seq (.reg q61_132) .ret)
abbrev q61_134 : RQ := (.seq (.reg q61_127) q61_133)
abbrev q61_135 : RQ := (.seq (.reg q61_124) q61_134)
abbrev q61_136 : RQ := (.seq (.reg q61_119) q61_135)
abbrev q61_137 : RQ := (.seq (.reg q61_112) q61_136)
abbrev q61_138 : RQ := (.seq (.reg q61_109) q61_137)
abbrev q61_139 : RQ := (.seq (.reg q61_98) q61_138)
abbrev q61_140 : RQ := (.seq (.seq (.reg q61_86) q61_93) q61_139)
abbrev q61_141 : RQ := (.seq (.reg q61_84) q61_140)
abbrev q61_142 : RQ := (.seq (.seq (.reg q61_64) q61_70) q61_141)
abbrev q61_143 : RQ := (.seq (.seq (.reg q61_52) q61_58) q61_142)
abbrev q61_144 : RQ := (.seq (.seq (.reg q61_42) q61_48) q61_143)
abbrev q61_145 : RQ := (.seq (.seq (.reg q61_11) q61_18) q61_144)
abbrev q61_146 : RQ := (.seq (.reg q61_9) q61_145)
abbrev q61 : RQ := (.seq (.reg q61_5) q61_146)
theorem l61 : ∃ c, f61.body = some c ∧ liteC prog f61.ntmps c = some q61 := ⟨_, rfl, by kernel_rfl⟩
theorem e61 : prog.funcs[61]? = some f61 := by kernel_rfl
theorem r61 : mapO (resOf prog) f61.results.toList = some [(.c 10 true 4), (.t 11), (.t 12)] := by kernel_rfl
theorem n61 : f61.ntmps = 105 := rfl

abbrev q62_1 : List RP := ⟨(some 7), none, false, (.mv (.c (.int .i64 0)))⟩ :: []
abbrev q62_2 : List RP := ⟨(some 6), none, false, (.alloc [.nils, .nils, (.int .u64 0), (.int .i64 0)])⟩ :: q62_1
abbrev q62_3 : List RP := ⟨(some 4), none, false, (.box (.t 1))⟩ :: q62_2
abbrev q62_4 : List RP := ⟨(some 3), none, false, (.box (.t 0))⟩ :: q62_3
abbrev q62_5 : List RP := ⟨(some 7), none, false, (.mv (.t 13))⟩ :: []
abbrev q62_6 : List RP := ⟨none, none, false, (.st 4 (.t 6) (.t 12))⟩ :: q62_5
abbrev q62_7 : List RP := ⟨(some 13), none, false, (.ext (.t 11) 1)⟩ :: q62_6
abbrev q62_8 : List RP := ⟨(some 12), none, false, (.ext (.t 11) 0)⟩ :: q62_7
abbrev q62_9 : List RP := ⟨(some 11), none, false, (.cal 80 [(.t 8), (.t 9), (.t 10), (.c (.int .u8 5)), (.c (.int .u64 0))])⟩ :: q62_8
abbrev q62_10 : List RP := ⟨(some 10), none, true, (.mv (.t 2))⟩ :: q62_9
abbrev q62_11 : List RP := ⟨(some 9), none, true, (.ld true 4 (.t 4))⟩ :: q62_10
abbrev q62_12 : List RP := ⟨(some 8), none, true, (.ld true 8 (.t 3))⟩ :: q62_11
abbrev q62_13 : RQ := (.seq (.reg q62_12) .ret)
abbrev q62 : RQ := (.seq (.reg q62_4) q62_13)
theorem l62 : ∃ c, f62.body = some c ∧ liteC prog f62.ntmps c = some q62 := ⟨_, rfl, by kernel_rfl⟩
theorem e62 : prog.funcs[62]? = some f62 := by kernel_rfl
theorem r62 : mapO (resOf prog) f62.results.toList = some [(.c 6 true 4), (.t 7)] := by kernel_rfl
theorem n62 : f62.ntmps = 14 := rfl

abbrev q63_1 : List RP := ⟨(some 6), none, false, (.mv (.c (.int .i64 0)))⟩ :: []
abbrev q63_2 : List RP := ⟨(some 5), none, false, (.mv (.c (.int .i64 0)))⟩ :: q63_1
abbrev q63_3 : List RP := ⟨(some 4), none, false, (.alloc [.nils, .nils, (.int .u64 0), (.int .i64 0)])⟩ :: q63_2
abbrev q63_4 : List RP := ⟨(some 3), none, false, (.box (.t 1))⟩ :: q63_3
abbrev q63_5 : List RP := ⟨(some 2), none, false, (.box (.t 0))⟩ :: q63_4
abbrev q63_6 : List RP := ⟨(some 7), none, false, (.mv (.t 11))⟩ :: []
abbrev q63_7 : List RP := ⟨(some 11), none, false, (.cal 38 [(.t 9), (.t 10)])⟩ :: q63_6
abbrev q63_8 : List RP := ⟨(some 10), none, true, (.ld true 4 (.t 3))⟩ :: q63_7
abbrev q63_9 : List RP := ⟨(some 9), none, true, (.ld true 8 (.t 2))⟩ :: q63_8
abbrev q63_10 : List RP := ⟨(some 13), none, false, (.bin .neq (.t 12) (.c (.int .i64 0)))⟩ :: []
abbrev q63_11 : List RP := ⟨(some 12), none, false, (.mv (.t 7))⟩ :: q63_10
abbrev q63_12 : List RP := ⟨(some 6), none, false, (.mv (.t 15))⟩ :: []
abbrev q63_13 : List RP := ⟨(some 5), none, false, (.mv (.c (.int .i64 0)))⟩ :: q63_12
abbrev q63_14 : List RP := ⟨none, none, false, (.st 4 (.t 4) (.t 14))⟩ :: q63_13
abbrev q63_15 : List RP := ⟨(some 15), none, false, (.mv (.t 7))⟩ :: q63_14
abbrev q63_16 : List RP := ⟨(some 14), none, false, (.build [.nils, .nils, (.int .u64 0), (.int .i64 0)] [])⟩ :: q63_15
abbrev q63_17 : RQ := (.seq (.reg q63_16) .ret)
abbrev q63_18 : RQ := (.cond (.t 13) q63_17 .skip)
abbrev q63_19 : List RP := ⟨(some 19), none, false, (.bin .eql (.t 18) (.c (.int .i64 0)))⟩ :: []
abbrev q63_20 : List RP := ⟨(some 18), none, false, (.len (.t 17))⟩ :: q63_19
abbrev q63_21 : List RP := ⟨(some 17), none, false, (.ld false 1 (.t 16))⟩ :: q63_20
abbrev q63_22 : List RP := ⟨(some 16), none, false, (.fa 1 (.t 3))⟩ :: q63_21
abbrev q63_23 : List RP := ⟨(some 6), none, false, (.mv (.c (.int .i64 6)))⟩ :: []
abbrev q63_24 : List RP := ⟨(some 5), none, false, (.mv (.c (.int .i64 0)))⟩ :: q63_23
abbrev q63_25 : List RP := ⟨none, none, false, (.st 4 (.t 4) (.t 20))⟩ :: q63_24
abbrev q63_26 : List RP := ⟨(some 20), none, false, (.build [.nils, .nils, (.int .u64 0), (.int .i64 0)] [])⟩ :: q63_25
abbrev q63_27 : RQ := (.seq (.reg q63_26) .ret)
abbrev q63_28 : RQ := (.cond (.t 19) q63_27 .skip)
abbrev q63_29 : List RP := ⟨(some 8), none, false, (.mv (.t 24))⟩ :: []
abbrev q63_30 : List RP := ⟨(some 24), none, false, (.ld false 1 (.t 23))⟩ :: q63_29
abbrev q63_31 : List RP := ⟨(some 23), none, false, (.ias 1 (.t 22) (.c (.int .i64 0)))⟩ :: q63_30
abbrev q63_32 : List RP := ⟨(some 22), none, false, (.ld false 1 (.t 21))⟩ :: q63_31
abbrev q63_33 : List RP := ⟨(some 21), none, false, (.fa 1 (.t 3))⟩ :: q63_32
abbrev q63_34 : List RP := ⟨(some 7), none, false, (.mv (.t 31))⟩ :: []
abbrev q63_35 : List RP := ⟨none, none, false, (.st 4 (.t 3) (.t 30))⟩ :: q63_34
abbrev q63_36 : List RP := ⟨(some 31), none, false, (.ext (.t 25) 1)⟩ :: q63_35
abbrev q63_37 : List RP := ⟨(some 30), none, false, (.ext (.t 25) 0)⟩ :: q63_36
abbrev q63_38 : List RP := ⟨(some 25), none, false, (.mv (.t 29))⟩ :: q63_37
abbrev q63_39 : List RP := ⟨(some 29), none, false, (.cal 80 [(.t 26), (.t 27), (.t 28), (.c (.int .u8 2)), (.c (.int .u64 0))])⟩ :: q63_38
abbrev q63_40 : List RP := ⟨(some 28), none, true, (.mv (.t 8))⟩ :: q63_39
abbrev q63_41 : List RP := ⟨(some 27), none, true, (.ld true 4 (.t 3))⟩ :: q63_40
abbrev q63_42 : List RP := ⟨(some 26), none, true, (.ld true 8 (.t 2))⟩ :: q63_41
abbrev q63_43 : List RP := ⟨(some 6), none, false, (.mv (.t 34))⟩ :: []
abbrev q63_44 : List RP := ⟨(some 5), none, false, (.mv (.t 33))⟩ :: q63_43
abbrev q63_45 : List RP := ⟨none, none, false, (.st 4 (.t 4) (.t 32))⟩ :: q63_44
abbrev q63_46 : List RP := ⟨(some 34), none, false, (.mv (.t 7))⟩ :: q63_45
abbrev q63_47 : List RP := ⟨(some 33), none, false, (.mv (.t 8))⟩ :: q63_46
abbrev q63_48 : List RP := ⟨(some 32), none, false, (.ld true 4 (.t 3))⟩ :: q63_47
abbrev q63_49 : RQ := (.seq (.reg q63_48) .ret)
abbrev q63_50 : RQ := (.seq (.reg q63_42) q63_49)
abbrev q63_51 : RQ := (.seq (.reg q63_33) q63_50)
abbrev q63_52 : RQ := (.seq (.seq (.reg q63_22) q63_28) q63_51)
abbrev q63_53 : RQ := (.seq (.seq (.reg q63_11) q63_18) q63_52)
abbrev q63_54 : RQ := (.seq (.reg q63_9) q63_53)
abbrev q63 : RQ := (.seq (.reg q63_5) q63_54)
theorem l63 : ∃ c, f63.body = some c ∧ liteC prog f63.ntmps c = some q63 := ⟨_, rfl, by kernel_rfl⟩
theorem e63 : prog.funcs[63]? = some f63 := by kernel_rfl
theorem r63 : mapO (resOf prog) f63.results.toList = some [(.c 4 true 4), (.t 5), (.t 6)] := by kernel_rfl
theorem n63 : f63.ntmps = 35 := rfl

abbrev q64_1 : List RP := ⟨(some 7), none, false, (.mv (.c (.int .i64 0)))⟩ :: []
abbrev q64_2 : List RP := ⟨(some 6), none, false, (.alloc [.nils, .nils, (.int .u64 0), (.int .i64 0)])⟩ :: q64_1
abbrev q64_3 : List RP := ⟨(some 4), none, false, (.box (.t 1))⟩ :: q64_2
abbrev q64_4 : List RP := ⟨(some 3), none, false, (.box (.t 0))⟩ :: q64_3
abbrev q64_5 : List RP := ⟨(some 7), none, false, (.mv (.t 13))⟩ :: []
abbrev q64_6 : List RP := ⟨none, none, false, (.st 4 (.t 6) (.t 12))⟩ :: q64_5
abbrev q64_7 : List RP := ⟨(some 13), none, false, (.ext (.t 11) 1)⟩ :: q64_6
abbrev q64_8 : List RP := ⟨(some 12), none, false, (.ext (.t 11) 0)⟩ :: q64_7
abbrev q64_9 : List RP := ⟨(some 11), none, false, (.cal 80 [(.t 8), (.t 9), (.t 10), (.c (.int .u8 3)), (.c (.int .u64 0))])⟩ :: q64_8
abbrev q64_10 : List RP := ⟨(some 10), none, true, (.mv (.t 2))⟩ :: q64_9
abbrev q64_11 : List RP := ⟨(some 9), none, true, (.ld true 4 (.t 4))⟩ :: q64_10
abbrev q64_12 : List RP := ⟨(some 8), none, true, (.ld true 8 (.t 3))⟩ :: q64_11
abbrev q64_13 : RQ := (.seq (.reg q64_12) .ret)
abbrev q64 : RQ := (.seq (.reg q64_4) q64_13)
theorem l64 : ∃ c, f64.body = some c ∧ liteC prog f64.ntmps c = some q64 := ⟨_, rfl, by kernel_rfl⟩
theorem e64 : prog.funcs[64]? = some f64 := by kernel_rfl
theorem r64 : mapO (resOf prog) f64.results.toList = some [(.c 6 true 4), (.t 7)] := by kernel_rfl
theorem n64 : f64.ntmps = 14 := rfl

abbrev q65_1 : List RP := ⟨(some 9), none, false, (.mv (.c (.int .i64 0)))⟩ :: []
abbrev q65_2 : List RP := ⟨(some 8), none, false, (.alloc [.nils, .nils, (.int .u64 0), (.int .i64 0)])⟩ :: q65_1
abbrev q65_3 : List RP := ⟨(some 5), none, false, (.box (.t 1))⟩ :: q65_2
abbrev q65_4 : List RP := ⟨(some 4), none, false, (.box (.t 0))⟩ :: q65_3
abbrev q65_5 : List RP := ⟨(some 9), none, false, (.mv (.t 16))⟩ :: []
abbrev q65_6 : List RP := ⟨none, none, false, (.st 4 (.t 8) (.t 15))⟩ :: q65_5
abbrev q65_7 : List RP := ⟨(some 16), none, false, (.ext (.t 14) 1)⟩ :: q65_6
abbrev q65_8 : List RP := ⟨(some 15), none, false, (.ext (.t 14) 0)⟩ :: q65_7
abbrev q65_9 : List RP := ⟨(some 14), none, false, (.cal 80 [(.t 10), (.t 11), (.t 12), (.c (.int .u8 4)), (.t 13)])⟩ :: q65_8
abbrev q65_10 : List RP := ⟨(some 13), none, true, (.mv (.t 3))⟩ :: q65_9
abbrev q65_11 : List RP := ⟨(some 12), none, true, (.mv (.t 2))⟩ :: q65_10
abbrev q65_12 : List RP := ⟨(some 11), none, true, (.ld true 4 (.t 5))⟩ :: q65_11
abbrev q65_13 : List RP := ⟨(some 10), none, true, (.ld true 8 (.t 4))⟩ :: q65_12
abbrev q65_14 : RQ := (.seq (.reg q65_13) .ret)
abbrev q65 : RQ := (.seq (.reg q65_4) q65_14)
theorem l65 : ∃ c, f65.body = some c ∧ liteC prog f65.ntmps c = some q65 := ⟨_, rfl, by kernel_rfl⟩
theorem e65 : prog.funcs[65]? = some f65 := by kernel_rfl
theorem r65 : mapO (resOf prog) f65.results.toList = some [(.c 8 true 4), (.t 9)] := by kernel_rfl
theorem n65 : f65.ntmps = 17 := rfl

abbrev q66_1 : List RP := ⟨(some 7), none, false, (.mv (.c (.int .i64 0)))⟩ :: []
abbrev q66_2 : List RP := ⟨(some 6), none, false, (.alloc [(.int .i64 0), (.int .i64 0), (.int .i64 0), (.int .u8 0), (.int .u64 0), (.int .u64 0)])⟩ :: q66_1
abbrev q66_3 : List RP := ⟨(some 4), none, false, (.box (.t 1))⟩ :: q66_2
abbrev q66_4 : List RP := ⟨(some 3), none, false, (.box (.t 0))⟩ :: q66_3
abbrev q66_5 : List RP := ⟨(some 8), none, false, (.mv (.t 11))⟩ :: []
abbrev q66_6 : List RP := ⟨(some 11), none, false, (.cal 38 [(.t 9), (.t 10)])⟩ :: q66_5
abbrev q66_7 : List RP := ⟨(some 10), none, true, (.ld true 4 (.t 4))⟩ :: q66_6
abbrev q66_8 : List RP := ⟨(some 9), none, true, (.ld true 8 (.t 3))⟩ :: q66_7
abbrev q66_9 : List RP := ⟨(some 13), none, false, (.bin .neq (.t 12) (.c (.int .i64 0)))⟩ :: []
abbrev q66_10 : List RP := ⟨(some 12), none, false, (.mv (.t 8))⟩ :: q66_9
abbrev q66_11 : List RP := ⟨(some 7), none, false, (.mv (.t 15))⟩ :: []
abbrev q66_12 : List RP := ⟨none, none, false, (.st 6 (.t 6) (.t 14))⟩ :: q66_11
abbrev q66_13 : List RP := ⟨(some 15), none, false, (.mv (.t 8))⟩ :: q66_12
abbrev q66_14 : List RP := ⟨(some 14), none, false, (.build [(.int .i64 0), (.int .i64 0), (.int .i64 0), (.int .u8 0), (.int .u64 0), (.int .u64 0)] [])⟩ :: q66_13
abbrev q66_15 : RQ := (.seq (.reg q66_14) .ret)
abbrev q66_16 : RQ := (.cond (.t 13) q66_15 .skip)
abbrev q66_17 : List RP := ⟨(some 24), none, false, (.pick (.t 18) (.c (.bool true)) (.t 23))⟩ :: []
abbrev q66_18 : List RP := ⟨(some 23), (some (18, false)), false, (.bin .gtr (.t 19) (.t 22))⟩ :: q66_17
abbrev q66_19 : List RP := ⟨(some 22), (some (18, false)), false, (.len (.t 21))⟩ :: q66_18
abbrev q66_20 : List RP := ⟨(some 21), (some (18, false)), false, (.ld false 1 (.t 20))⟩ :: q66_19
abbrev q66_21 : List RP := ⟨(some 20), (some (18, false)), false, (.fa 0 (.t 4))⟩ :: q66_20
abbrev q66_22 : List RP := ⟨(some 19), (some (18, false)), false, (.mv (.t 2))⟩ :: q66_21
abbrev q66_23 : List RP := ⟨(some 18), none, false, (.mv (.t 17))⟩ :: q66_22
abbrev q66_24 : List RP := ⟨(some 17), none, false, (.bin .lss (.t 16) (.c (.int .i64 1)))⟩ :: q66_23
abbrev q66_25 : List RP := ⟨(some 16), none, false, (.mv (.t 2))⟩ :: q66_24
abbrev q66_26 : List RP := ⟨(some 7), none, false, (.mv (.c (.int .i64 6)))⟩ :: []
abbrev q66_27 : List RP := ⟨none, none, false, (.st 6 (.t 6) (.t 25))⟩ :: q66_26
abbrev q66_28 : List RP := ⟨(some 25), none, false, (.build [(.int .i64 0), (.int .i64 0), (.int .i64 0), (.int .u8 0), (.int .u64 0), (.int .u64 0)] [])⟩ :: q66_27
abbrev q66_29 : RQ := (.seq (.reg q66_28) .ret)
abbrev q66_30 : RQ := (.cond (.t 24) q66_29 .skip)
abbrev q66_31 : List RP := ⟨(some 7), none, false, (.mv (.c (.int .i64 0)))⟩ :: []
abbrev q66_32 : List RP := ⟨none, none, false, (.st 6 (.t 6) (.t 31))⟩ :: q66_31
abbrev q66_33 : List RP := ⟨(some 31), none, false, (.ld true 6 (.t 30))⟩ :: q66_32
abbrev q66_34 : List RP := ⟨(some 30), none, false, (.ias 6 (.t 27) (.t 29))⟩ :: q66_33
abbrev q66_35 : List RP := ⟨(some 29), none, false, (.bin .sub (.t 28) (.c (.int .i64 1)))⟩ :: q66_34
abbrev q66_36 : List RP := ⟨(some 28), none, false, (.mv (.t 2))⟩ :: q66_35
abbrev q66_37 : List RP := ⟨(some 27), none, false, (.ld false 1 (.t 26))⟩ :: q66_36
abbrev q66_38 : List RP := ⟨(some 26), none, false, (.fa 0 (.t 4))⟩ :: q66_37
abbrev q66_39 : RQ := (.seq (.reg q66_38) .ret)
abbrev q66_40 : RQ := (.seq (.seq (.reg q66_25) q66_30) q66_39)
abbrev q66_41 : RQ := (.seq (.seq (.reg q66_10) q66_16) q66_40)
abbrev q66_42 : RQ := (.seq (.reg q66_8) q66_41)
abbrev q66 : RQ := (.seq (.reg q66_4) q66_42)
theorem l66 : ∃ c, f66.body = some c ∧ liteC prog f66.ntmps c = some q66 := ⟨_, rfl, by kernel_rfl⟩
theorem e66 : prog.funcs[66]? = some f66 := by kernel_rfl
theorem r66 : mapO (resOf prog) f66.results.toList = some [(.c 6 true 6), (.t 7)] := by kernel_rfl
theorem n66 : f66.ntmps = 32 := rfl

abbrev q67_1 : List RP := ⟨(some 5), none, false, (.mv (.c (.int .i64 0)))⟩ :: []
abbrev q67_2 : List RP := ⟨(some 4), none, false, (.alloc [(.int .i64 0), (.int .i64 0), (.int .i64 0), (.int .i64 0), (.int .i64 0), (.int .i64 0)])⟩ :: q67_1
abbrev q67_3 : List RP := ⟨(some 3), none, false, (.box (.t 1))⟩ :: q67_2
abbrev q67_4 : List RP := ⟨(some 2), none, false, (.box (.t 0))⟩ :: q67_3
abbrev q67_5 : List RP := ⟨(some 6), none, false, (.mv (.t 11))⟩ :: []
abbrev q67_6 : List RP := ⟨(some 11), none, false, (.cal 38 [(.t 9), (.t 10)])⟩ :: q67_5
abbrev q67_7 : List RP := ⟨(some 10), none, true, (.ld true 4 (.t 3))⟩ :: q67_6
abbrev q67_8 : List RP := ⟨(some 9), none, true, (.ld true 8 (.t 2))⟩ :: q67_7
abbrev q67_9 : List RP := ⟨(some 13), none, false, (.bin .neq (.t 12) (.c (.int .i64 0)))⟩ :: []
abbrev q67_10 : List RP := ⟨(some 12), none, false, (.mv (.t 6))⟩ :: q67_9
abbrev q67_11 : List RP := ⟨(some 5), none, false, (.mv (.t 15))⟩ :: []
abbrev q67_12 : List RP := ⟨none, none, false, (.st 6 (.t 4) (.t 14))⟩ :: q67_11
abbrev q67_13 : List RP := ⟨(some 15), none, false, (.mv (.t 6))⟩ :: q67_12
abbrev q67_14 : List RP := ⟨(some 14), none, false, (.build [(.int .i64 0), (.int .i64 0), (.int .i64 0), (.int .i64 0), (.int .i64 0), (.int .i64 0)] [])⟩ :: q67_13
abbrev q67_15 : RQ := (.seq (.reg q67_14) .ret)
abbrev q67_16 : RQ := (.cond (.t 13) q67_15 .skip)
abbrev q67_17 : List RP := ⟨(some 7), none, false, (.alloc [(.int .i64 0), (.int .i64 0), (.int .i64 0), (.int .i64 0), (.int .i64 0), (.int .i64 0)])⟩ :: []
abbrev q67_18 : List RP := ⟨(some 8), none, false, (.mv (.c (.int .i64 0)))⟩ :: []
abbrev q67_19 : List RP := ⟨(some 20), none, false, (.bin .lss (.t 16) (.t 19))⟩ :: []
abbrev q67_20 : List RP := ⟨(some 19), none, false, (.len (.t 18))⟩ :: q67_19
abbrev q67_21 : List RP := ⟨(some 18), none, false, (.ld false 1 (.t 17))⟩ :: q67_20
abbrev q67_22 : List RP := ⟨(some 17), none, false, (.fa 0 (.t 3))⟩ :: q67_21
abbrev q67_23 : List RP := ⟨(some 16), none, false, (.mv (.t 8))⟩ :: q67_22
abbrev q67_24 : RQ := (.exit 0)
abbrev q67_25 : RQ := (.cond (.t 20) .skip q67_24)
abbrev q67_26 : List RP := ⟨none, none, false, (.st 1 (.t 26) (.t 25))⟩ :: []
abbrev q67_27 : List RP := ⟨(some 26), none, false, (.iaa 6 1 (.t 7) (.c (.int .i64 0)))⟩ :: q67_26
abbrev q67_28 : List RP := ⟨(some 25), none, false, (.bin .add (.t 24) (.c (.int .i64 1)))⟩ :: q67_27
abbrev q67_29 : List RP := ⟨(some 24), none, false, (.ld false 1 (.t 23))⟩ :: q67_28
abbrev q67_30 : List RP := ⟨(some 23), none, false, (.iaa 6 1 (.t 7) (.c (.int .i64 0)))⟩ :: q67_29
abbrev q67_31 : List RP := ⟨none, none, false, (.st 1 (.t 36) (.t 35))⟩ :: []
abbrev q67_32 : List RP := ⟨(some 36), none, false, (.iaa 6 1 (.t 7) (.t 32))⟩ :: q67_31
abbrev q67_33 : List RP := ⟨(some 35), none, false, (.bin .add (.t 34) (.c (.int .i64 1)))⟩ :: q67_32
abbrev q67_34 : List RP := ⟨(some 34), none, false, (.ld false 1 (.t 33))⟩ :: q67_33
abbrev q67_35 : List RP := ⟨(some 33), none, false, (.iaa 6 1 (.t 7) (.t 32))⟩ :: q67_34
abbrev q67_36 : List RP := ⟨(some 32), none, false, (.ld false 1 (.t 31))⟩ :: q67_35
abbrev q67_37 : List RP := ⟨(some 31), none, false, (.fa 3 (.t 30))⟩ :: q67_36
abbrev q67_38 : List RP := ⟨(some 30), none, false, (.ias 6 (.t 28) (.t 29))⟩ :: q67_37
abbrev q67_39 : List RP := ⟨(some 29), none, false, (.mv (.t 8))⟩ :: q67_38
abbrev q67_40 : List RP := ⟨(some 28), none, false, (.ld false 1 (.t 27))⟩ :: q67_39
abbrev q67_41 : List RP := ⟨(some 27), none, false, (.fa 0 (.t 3))⟩ :: q67_40
abbrev q67_42 : RQ := (.reg q67_41)
abbrev q67_43 : List RP := ⟨(some 8), none, false, (.mv (.t 22))⟩ :: []
abbrev q67_44 : List RP := ⟨(some 22), none, false, (.bin .add (.t 21) (.c (.int .i64 1)))⟩ :: q67_43
abbrev q67_45 : List RP := ⟨(some 21), none, false, (.mv (.t 8))⟩ :: q67_44
abbrev q67_46 : RQ := (.reg q67_45)
abbrev q67_47 : RQ := (.seq (.block 1 (.seq (.reg q67_30) q67_42)) q67_46)
abbrev q67_48 : RQ := (.seq (.seq (.reg q67_23) q67_25) q67_47)
abbrev q67_49 : RQ := (.block 0 (.loop q67_48))
abbrev q67_50 : List RP := ⟨(some 5), none, false, (.mv (.c (.int .i64 0)))⟩ :: []
abbrev q67_51 : List RP := ⟨none, none, false, (.st 6 (.t 4) (.t 37))⟩ :: q67_50
abbrev q67_52 : List RP := ⟨(some 37), none, false, (.ld true 6 (.t 7))⟩ :: q67_51
abbrev q67_53 : RQ := (.seq (.reg q67_52) .ret)
abbrev q67_54 : RQ := (.seq (.seq (.reg q67_18) q67_49) q67_53)
abbrev q67_55 : RQ := (.seq (.reg q67_17) q67_54)
abbrev q67_56 : RQ := (.seq (.seq (.reg q67_10) q67_16) q67_55)
abbrev q67_57 : RQ := (.seq (.reg q67_8) q67_56)
abbrev q67 : RQ := (.seq (.reg q67_4) q67_57)
theorem l67 : ∃ c, f67.body = some c ∧ liteC prog f67.ntmps c = some q67 := ⟨_, rfl, by kernel_rfl⟩
theorem e67 : prog.funcs[67]? = some f67 := by kernel_rfl
theorem r67 : mapO (resOf prog) f67.results.toList = some [(.c 4 true 6), (.t 5)] := by kernel_rfl
theorem n67 : f67.ntmps = 38 := rfl

abbrev q68_1 : List RP := ⟨(some 4), none, false, (.mv (.c (.bool false)))⟩ :: []
abbrev q68_2 : List RP := ⟨(some 10), none, false, (.bin .neq (.t 7) (.t 9))⟩ :: []
abbrev q68_3 : List RP := ⟨(some 9), none, false, (.len (.t 8))⟩ :: q68_2
abbrev q68_4 : List RP := ⟨(some 8), none, false, (.mv (.t 1))⟩ :: q68_3
abbrev q68_5 : List RP := ⟨(some 7), none, false, (.len (.t 6))⟩ :: q68_4
abbrev q68_6 : List RP := ⟨(some 6), none, false, (.mv (.t 0))⟩ :: q68_5
abbrev q68_7 : List RP := ⟨(some 4), none, false, (.mv (.c (.bool false)))⟩ :: []
abbrev q68_8 : RQ := (.seq (.reg q68_7) .ret)
abbrev q68_9 : RQ := (.cond (.t 10) q68_8 .skip)
abbrev q68_10 : List RP := ⟨(some 5), none, false, (.mv (.c (.int .i64 0)))⟩ :: []
abbrev q68_11 : List RP := ⟨(some 14), none, false, (.bin .lss (.t 11) (.t 13))⟩ :: []
abbrev q68_12 : List RP := ⟨(some 13), none, false, (.len (.t 12))⟩ :: q68_11
abbrev q68_13 : List RP := ⟨(some 12), none, false, (.mv (.t 0))⟩ :: q68_12
abbrev q68_14 : List RP := ⟨(some 11), none, false, (.mv (.t 5))⟩ :: q68_13
abbrev q68_15 : RQ := (.exit 0)
abbrev q68_16 : RQ := (.cond (.t 14) .skip q68_15)
abbrev q68_17 : List (Bool × RP) := (false, ⟨(some 25), none, false, (.bin .neq (.t 20) (.t 24))⟩) :: []
abbrev q68_18 : List (Bool × RP) := (false, ⟨(some 24), none, false, (.ld false 1 (.t 23))⟩) :: q68_17
abbrev q68_19 : List (Bool × RP) := (false, ⟨(some 23), none, false, (.ias 1 (.t 21) (.t 22))⟩) :: q68_18
abbrev q68_20 : List (Bool × RP) := (false, ⟨(some 22), none, false, (.mv (.t 5))⟩) :: q68_19
abbrev q68_21 : List (Bool × RP) := (false, ⟨(some 21), none, false, (.mv (.t 1))⟩) :: q68_20
abbrev q68_22 : List (Bool × RP) := (false, ⟨(some 20), none, false, (.ld false 1 (.t 19))⟩) :: q68_21
abbrev q68_23 : List (Bool × RP) := (false, ⟨(some 19), none, false, (.ias 1 (.t 17) (.t 18))⟩) :: q68_22
abbrev q68_24 : List (Bool × RP) := (false, ⟨(some 18), none, false, (.mv (.t 5))⟩) :: q68_23
abbrev q68_25 : List (Bool × RP) := (false, ⟨(some 17), none, false, (.mv (.t 0))⟩) :: q68_24
abbrev q68_26 : List RP := ⟨(some 4), none, false, (.mv (.c (.bool false)))⟩ :: []
abbrev q68_27 : RQ := (.seq (.reg q68_26) .ret)
abbrev q68_28 : RQ := (.cond (.t 25) q68_27 .skip)
abbrev q68_29 : List RP := ⟨(some 5), none, false, (.mv (.t 16))⟩ :: []
abbrev q68_30 : List RP := ⟨(some 16), none, false, (.bin .add (.t 15) (.c (.int .i64 1)))⟩ :: q68_29
abbrev q68_31 : List RP := ⟨(some 15), none, false, (.mv (.t 5))⟩ :: q68_30
abbrev q68_32 : RQ := (.reg q68_31)
abbrev q68_33 : RQ := (.seq (.block 1 (.seq (.drw q68_25 []) q68_28)) q68_32)
abbrev q68_34 : RQ := (.seq (.seq (.reg q68_14) q68_16) q68_33)
abbrev q68_35 : RQ := (.block 0 (.loop q68_34))
abbrev q68_36 : List RP := ⟨(some 4), none, false, (.mv (.c (.bool true)))⟩ :: []
abbrev q68_37 : RQ := (.seq (.reg q68_36) .ret)
abbrev q68_38 : RQ := (.seq (.seq (.reg q68_10) q68_35) q68_37)
abbrev q68_39 : RQ := (.seq (.seq (.reg q68_6) q68_9) q68_38)
abbrev q68 : RQ := (.seq (.reg q68_1) q68_39)
theorem l68 : ∃ c, f68.body = some c ∧ liteC prog f68.ntmps c = some q68 := ⟨_, rfl, by kernel_rfl⟩
theorem e68 : prog.funcs[68]? = some f68 := by kernel_rfl
theorem r68 : mapO (resOf prog) f68.results.toList = some [(.t 4)] := by kernel_rfl
theorem n68 : f68.ntmps = 26 := rfl

abbrev q69_1 : List RP := ⟨(some 4), none, false, (.mv (.c (.bool false)))⟩ :: []
abbrev q69_2 : List RP := ⟨(some 4), none, false, (.mv (.t 11))⟩ :: []
abbrev q69_3 : List RP := ⟨(some 11), none, false, (.pick (.t 7) (.t 10) (.c (.bool false)))⟩ :: q69_2
abbrev q69_4 : List RP := ⟨(some 10), (some (7, true)), false, (.bin .leq (.t 8) (.t 9))⟩ :: q69_3
abbrev q69_5 : List RP := ⟨(some 9), (some (7, true)), false, (.mv (.t 1))⟩ :: q69_4
abbrev q69_6 : List RP := ⟨(some 8), (some (7, true)), false, (.mv (.t 0))⟩ :: q69_5
abbrev q69_7 : List RP := ⟨(some 7), none, false, (.mv (.t 6))⟩ :: q69_6
abbrev q69_8 : List RP := ⟨(some 6), none, false, (.bin .geq (.t 5) (.c (.int .i64 1)))⟩ :: q69_7
abbrev q69_9 : List RP := ⟨(some 5), none, false, (.mv (.t 0))⟩ :: q69_8
abbrev q69_10 : RQ := (.seq (.reg q69_9) .ret)
abbrev q69 : RQ := (.seq (.reg q69_1) q69_10)
theorem l69 : ∃ c, f69.body = some c ∧ liteC prog f69.ntmps c = some q69 := ⟨_, rfl, by kernel_rfl⟩
theorem e69 : prog.funcs[69]? = some f69 := by kernel_rfl
theorem r69 : mapO (resOf prog) f69.results.toList = some [(.t 4)] := by kernel_rfl
theorem n69 : f69.ntmps = 12 := rfl

abbrev q70_1 : List RP := ⟨(some 2), none, false, (.mv (.c .nils))⟩ :: []
abbrev q70_2 : List RP := ⟨(some 3), none, false, (.mv (.c .nils))⟩ :: []
abbrev q70_3 : List RP := ⟨(some 4), none, false, (.mv (.c (.int .i64 0)))⟩ :: []
abbrev q70_4 : List RP := ⟨(some 8), none, false, (.bin .lss (.t 5) (.t 7))⟩ :: []
abbrev q70_5 : List RP := ⟨(some 7), none, false, (.len (.t 6))⟩ :: q70_4
abbrev q70_6 : List RP := ⟨(some 6), none, false, (.mv (.t 0))⟩ :: q70_5
abbrev q70_7 : List RP := ⟨(some 5), none, false, (.mv (.t 4))⟩ :: q70_6
abbrev q70_8 : RQ := (.exit 0)
abbrev q70_9 : RQ := (.cond (.t 8) .skip q70_8)
abbrev q70_10 : List RP := ⟨(some 16), none, false, (.bin .eql (.t 15) (.c (.int .u8 1)))⟩ :: []
abbrev q70_11 : List RP := ⟨(some 15), none, false, (.ld false 1 (.t 14))⟩ :: q70_10
abbrev q70_12 : List RP := ⟨(some 14), none, false, (.fa 3 (.t 13))⟩ :: q70_11
abbrev q70_13 : List RP := ⟨(some 13), none, false, (.ias 6 (.t 11) (.t 12))⟩ :: q70_12
abbrev q70_14 : List RP := ⟨(some 12), none, false, (.mv (.t 4))⟩ :: q70_13
abbrev q70_15 : List RP := ⟨(some 11), none, false, (.mv (.t 0))⟩ :: q70_14
abbrev q70_16 : List RP := ⟨(some 3), none, false, (.mv (.t 24))⟩ :: []
abbrev q70_17 : List RP := ⟨(some 24), none, false, (.app 1 8 [(.int .i64 0)] (.t 17) (.t 23))⟩ :: q70_16
abbrev q70_18 : List RP := ⟨(some 23), none, true, (.bslice 1 1 [(.int .i64 0)] [(0, (.t 22))])⟩ :: q70_17
abbrev q70_19 : List RP := ⟨(some 22), none, false, (.ld false 1 (.t 21))⟩ :: q70_18
abbrev q70_20 : List RP := ⟨(some 21), none, false, (.fa 0 (.t 20))⟩ :: q70_19
abbrev q70_21 : List RP := ⟨(some 20), none, false, (.ias 6 (.t 18) (.t 19))⟩ :: q70_20
abbrev q70_22 : List RP := ⟨(some 19), none, false, (.mv (.t 4))⟩ :: q70_21
abbrev q70_23 : List RP := ⟨(some 18), none, false, (.mv (.t 0))⟩ :: q70_22
abbrev q70_24 : List RP := ⟨(some 17), none, false, (.mv (.t 3))⟩ :: q70_23
abbrev q70_25 : RQ := (.reg q70_24)
abbrev q70_26 : RQ := (.cond (.t 16) q70_25 .skip)
abbrev q70_27 : List RP := ⟨(some 4), none, false, (.mv (.t 10))⟩ :: []
abbrev q70_28 : List RP := ⟨(some 10), none, false, (.bin .add (.t 9) (.c (.int .i64 1)))⟩ :: q70_27
abbrev q70_29 : List RP := ⟨(some 9), none, false, (.mv (.t 4))⟩ :: q70_28
abbrev q70_30 : RQ := (.reg q70_29)
abbrev q70_31 : RQ := (.seq (.block 1 (.seq (.reg q70_15) q70_26)) q70_30)
abbrev q70_32 : RQ := (.seq (.seq (.reg q70_7) q70_9) q70_31)
abbrev q70_33 : RQ := (.block 0 (.loop q70_32))
abbrev q70_34 : List RP := ⟨(some 2), none, false, (.mv (.t 25))⟩ :: []
abbrev q70_35 : List RP := ⟨(some 25), none, false, (.mv (.t 3))⟩ :: q70_34
abbrev q70_36 : RQ := (.seq (.reg q70_35) .ret)
abbrev q70_37 : RQ := (.seq (.seq (.reg q70_3) q70_33) q70_36)
abbrev q70_38 : RQ := (.seq (.reg q70_2) q70_37)
abbrev q70 : RQ := (.seq (.reg q70_1) q70_38)
theorem l70 : ∃ c, f70.body = some c ∧ liteC prog f70.ntmps c = some q70 := ⟨_, rfl, by kernel_rfl⟩
theorem e70 : prog.funcs[70]? = some f70 := by kernel_rfl
theorem r70 : mapO (resOf prog) f70.results.toList = some [(.t 2)] := by kernel_rfl
theorem n70 : f70.ntmps = 26 := rfl

abbrev q71_1 : List RP := ⟨(some 11), none, false, (.mv (.c (.int .i64 0)))⟩ :: []
abbrev q71_2 : List RP := ⟨(some 10), none, false, (.alloc [.nils, .nils, (.int .u64 0), (.int .i64 0)])⟩ :: q71_1
abbrev q71_3 : List RP := ⟨(some 6), none, false, (.box (.t 1))⟩ :: q71_2
abbrev q71_4 : List RP := ⟨(some 5), none, false, (.box (.t 0))⟩ :: q71_3
abbrev q71_5 : List RP := ⟨(some 13), none, false, (.mv (.t 20))⟩ :: []
abbrev q71_6 : List RP := ⟨none, none, false, (.st 12 (.t 12) (.t 19))⟩ :: q71_5
abbrev q71_7 : List RP := ⟨(some 12), none, false, (.alloc [.nils, .nils, (.int .u64 0), (.int .i64 0), .nils, .nils, .nils, (.int .i64 0), (.int .i64 0), (.int .i64 0), (.int .i64 0), (.int .i64 0)])⟩ :: q71_6
abbrev q71_8 : List RP := ⟨(some 20), none, false, (.ext (.t 15) 1)⟩ :: q71_7
abbrev q71_9 : List RP := ⟨(some 19), none, false, (.ext (.t 15) 0)⟩ :: q71_8
abbrev q71_10 : List RP := ⟨(some 15), none, false, (.mv (.t 18))⟩ :: q71_9
abbrev q71_11 : List RP := ⟨(some 18), none, false, (.cal 53 [(.t 16), (.t 17)])⟩ :: q71_10
abbrev q71_12 : List RP := ⟨(some 17), none, true, (.ld true 4 (.t 6))⟩ :: q71_11
abbrev q71_13 : List RP := ⟨(some 16), none, true, (.ld true 8 (.t 5))⟩ :: q71_12
abbrev q71_14 : List RP := ⟨(some 22), none, false, (.bin .neq (.t 21) (.c (.int .i64 0)))⟩ :: []
abbrev q71_15 : List RP := ⟨(some 21), none, false, (.mv (.t 13))⟩ :: q71_14
abbrev q71_16 : List RP := ⟨(some 11), none, false, (.mv (.t 24))⟩ :: []
abbrev q71_17 : List RP := ⟨none, none, false, (.st 4 (.t 10) (.t 23))⟩ :: q71_16
abbrev q71_18 : List RP := ⟨(some 24), none, false, (.mv (.t 13))⟩ :: q71_17
abbrev q71_19 : List RP := ⟨(some 23), none, false, (.build [.nils, .nils, (.int .u64 0), (.int .i64 0)] [])⟩ :: q71_18
abbrev q71_20 : RQ := (.seq (.reg q71_19) .ret)
abbrev q71_21 : RQ := (.cond (.t 22) q71_20 .skip)
abbrev q71_22 : List RP := ⟨(some 13), none, false, (.mv (.t 30))⟩ :: []
abbrev q71_23 : List RP := ⟨none, none, false, (.st 6 (.t 14) (.t 29))⟩ :: q71_22
abbrev q71_24 : List RP := ⟨(some 14), none, false, (.alloc [(.int .i64 0), (.int .i64 0), (.int .i64 0), (.int .u8 0), (.int .u64 0), (.int .u64 0)])⟩ :: q71_23
abbrev q71_25 : List RP := ⟨(some 30), none, false, (.ext (.t 25) 1)⟩ :: q71_24
abbrev q71_26 : List RP := ⟨(some 29), none, false, (.ext (.t 25) 0)⟩ :: q71_25
abbrev q71_27 : List RP := ⟨(some 25), none, false, (.mv (.t 28))⟩ :: q71_26
abbrev q71_28 : List RP := ⟨(some 28), none, false, (.cal 72 [(.t 26), (.t 27)])⟩ :: q71_27
abbrev q71_29 : List RP := ⟨(some 27), none, true, (.mv (.t 2))⟩ :: q71_28
abbrev q71_30 : List RP := ⟨(some 26), none, true, (.ld true 12 (.t 12))⟩ :: q71_29
abbrev q71_31 : List RP := ⟨(some 32), none, false, (.bin .neq (.t 31) (.c (.int .i64 0)))⟩ :: []
abbrev q71_32 : List RP := ⟨(some 31), none, false, (.mv (.t 13))⟩ :: q71_31
abbrev q71_33 : List RP := ⟨(some 11), none, false, (.mv (.t 34))⟩ :: []
abbrev q71_34 : List RP := ⟨none, none, false, (.st 4 (.t 10) (.t 33))⟩ :: q71_33
abbrev q71_35 : List RP := ⟨(some 34), none, false, (.mv (.t 13))⟩ :: q71_34
abbrev q71_36 : List RP := ⟨(some 33), none, false, (.build [.nils, .nils, (.int .u64 0), (.int .i64 0)] [])⟩ :: q71_35
abbrev q71_37 : RQ := (.seq (.reg q71_36) .ret)
abbrev q71_38 : RQ := (.cond (.t 32) q71_37 .skip)
abbrev q71_39 : List RP := ⟨(some 13), none, false, (.mv (.t 41))⟩ :: []
abbrev q71_40 : List RP := ⟨none, none, false, (.st 6 (.t 14) (.t 40))⟩ :: q71_39
abbrev q71_41 : List RP := ⟨(some 41), none, false, (.ext (.t 35) 1)⟩ :: q71_40
abbrev q71_42 : List RP := ⟨(some 40), none, false, (.ext (.t 35) 0)⟩ :: q71_41
abbrev q71_43 : List RP := ⟨(some 35), none, false, (.mv (.t 39))⟩ :: q71_42
abbrev q71_44 : List RP := ⟨(some 39), none, false, (.cal 18 [(.t 36), (.t 37), (.t 38)])⟩ :: q71_43
abbrev q71_45 : List RP := ⟨(some 38), none, true, (.mv (.t 4))⟩ :: q71_44
abbrev q71_46 : List RP := ⟨(some 37), none, true, (.mv (.t 3))⟩ :: q71_45
abbrev q71_47 : List RP := ⟨(some 36), none, true, (.ld true 6 (.t 14))⟩ :: q71_46
abbrev q71_48 : List RP := ⟨(some 43), none, false, (.bin .neq (.t 42) (.c (.int .i64 0)))⟩ :: []
abbrev q71_49 : List RP := ⟨(some 42), none, false, (.mv (.t 13))⟩ :: q71_48
abbrev q71_50 : List RP := ⟨(some 11), none, false, (.mv (.t 45))⟩ :: []
abbrev q71_51 : List RP := ⟨none, none, false, (.st 4 (.t 10) (.t 44))⟩ :: q71_50
abbrev q71_52 : List RP := ⟨(some 45), none, false, (.mv (.t 13))⟩ :: q71_51
abbrev q71_53 : List RP := ⟨(some 44), none, false, (.build [.nils, .nils, (.int .u64 0), (.int .i64 0)] [])⟩ :: q71_52
abbrev q71_54 : RQ := (.seq (.reg q71_53) .ret)
abbrev q71_55 : RQ := (.cond (.t 43) q71_54 .skip)
abbrev q71_56 : List RP := ⟨none, none, false, (.st 6 (.t 52) (.t 51))⟩ :: []
abbrev q71_57 : List RP := ⟨(some 52), none, false, (.ias 6 (.t 48) (.t 50))⟩ :: q71_56
abbrev q71_58 : List RP := ⟨(some 51), none, false, (.ld true 6 (.t 14))⟩ :: q71_57
abbrev q71_59 : List RP := ⟨(some 50), none, false, (.bin .sub (.t 49) (.c (.int .i64 1)))⟩ :: q71_58
abbrev q71_60 : List RP := ⟨(some 49), none, false, (.mv (.t 2))⟩ :: q71_59
abbrev q71_61 : List RP := ⟨(some 48), none, false, (.ld false 1 (.t 47))⟩ :: q71_60
abbrev q71_62 : List RP := ⟨(some 47), none, false, (.fa 0 (.t 46))⟩ :: q71_61
abbrev q71_63 : List RP := ⟨(some 46), none, false, (.fa 0 (.t 12))⟩ :: q71_62
abbrev q71_64 : List RP := ⟨none, none, false, (.st 1 (.t 56) (.t 54))⟩ :: []
abbrev q71_65 : List RP := ⟨(some 56), none, false, (.fa 1 (.t 55))⟩ :: q71_64
abbrev q71_66 : List RP := ⟨(some 55), none, false, (.fa 0 (.t 12))⟩ :: q71_65
abbrev q71_67 : List RP := ⟨(some 54), none, false, (.cal 81 [(.t 53)])⟩ :: q71_66
abbrev q71_68 : List RP := ⟨(some 53), none, true, (.ld true 12 (.t 12))⟩ :: q71_67
abbrev q71_69 : List RP := ⟨(some 11), none, false, (.mv (.c (.int .i64 0)))⟩ :: []
abbrev q71_70 : List RP := ⟨none, none, false, (.st 4 (.t 10) (.t 58))⟩ :: q71_69
abbrev q71_71 : List RP := ⟨(some 58), none, false, (.ld true 4 (.t 57))⟩ :: q71_70
abbrev q71_72 : List RP := ⟨(some 57), none, false, (.fa 0 (.t 12))⟩ :: q71_71
abbrev q71_73 : RQ := (.seq (.reg q71_72) .ret)
abbrev q71_74 : RQ := (.seq (.reg q71_68) q71_73)
abbrev q71_75 : RQ := (.seq (.reg q71_63) q71_74)
abbrev q71_76 : RQ := (.seq (.seq (.reg q71_49) q71_55) q71_75)
abbrev q71_77 : RQ := (.seq (.reg q71_47) q71_76)
abbrev q71_78 : RQ := (.seq (.seq (.reg q71_32) q71_38) q71_77)
abbrev q71_79 : RQ := (.seq (.reg q71_30) q71_78)
abbrev q71_80 : RQ := (.seq (.seq (.reg q71_15) q71_21) q71_79)
abbrev q71_81 : RQ := (.seq (.reg q71_13) q71_80)
abbrev q71 : RQ := (.seq (.reg q71_4) q71_81)
theorem l71 : ∃ c, f71.body = some c ∧ liteC prog f71.ntmps c = some q71 := ⟨_, rfl, by kernel_rfl⟩
theorem e71 : prog.funcs[71]? = some f71 := by kernel_rfl
theorem r71 : mapO (resOf prog) f71.results.toList = some [(.c 10 true 4), (.t 11)] := by kernel_rfl
theorem n71 : f71.ntmps = 59 := rfl

abbrev q72_1 : List RP := ⟨(some 5), none, false, (.mv (.c (.int .i64 0)))⟩ :: []
abbrev q72_2 : List RP := ⟨(some 4), none, false, (.alloc [(.int .i64 0), (.int .i64 0), (.int .i64 0), (.int .u8 0), (.int .u64 0), (.int .u64 0)])⟩ :: q72_1
abbrev q72_3 : List RP := ⟨(some 2), none, false, (.box (.t 0))⟩ :: q72_2
abbrev q72_4 : List RP := ⟨(some 13), none, false, (.not (.t 12))⟩ :: []
abbrev q72_5 : List RP := ⟨(some 12), none, false, (.cal 50 [(.c (.int .i64 1)), (.t 9), (.t 11)])⟩ :: q72_4
abbrev q72_6 : List RP := ⟨(some 11), none, true, (.bslice 1 1 [(.int .i64 0)] [(0, (.t 10))])⟩ :: q72_5
abbrev q72_7 : List RP := ⟨(some 10), none, false, (.mv (.t 1))⟩ :: q72_6
abbrev q72_8 : List RP := ⟨(some 9), none, true, (.len (.t 8))⟩ :: q72_7
abbrev q72_9 : List RP := ⟨(some 8), none, false, (.ld false 1 (.t 7))⟩ :: q72_8
abbrev q72_10 : List RP := ⟨(some 7), none, false, (.fa 0 (.t 6))⟩ :: q72_9
abbrev q72_11 : List RP := ⟨(some 6), none, false, (.fa 0 (.t 2))⟩ :: q72_10
abbrev q72_12 : List RP := ⟨(some 5), none, false, (.mv (.c (.int .i64 6)))⟩ :: []
abbrev q72_13 : List RP := ⟨none, none, false, (.st 6 (.t 4) (.t 14))⟩ :: q72_12
abbrev q72_14 : List RP := ⟨(some 14), none, false, (.build [(.int .i64 0), (.int .i64 0), (.int .i64 0), (.int .u8 0), (.int .u64 0), (.int .u64 0)] [])⟩ :: q72_13
abbrev q72_15 : RQ := (.seq (.reg q72_14) .ret)
abbrev q72_16 : RQ := (.cond (.t 13) q72_15 .skip)
abbrev q72_17 : List RP := ⟨(some 5), none, false, (.mv (.c (.int .i64 0)))⟩ :: []
abbrev q72_18 : List RP := ⟨none, none, false, (.st 6 (.t 4) (.t 21))⟩ :: q72_17
abbrev q72_19 : List RP := ⟨(some 21), none, false, (.ld true 6 (.t 20))⟩ :: q72_18
abbrev q72_20 : List RP := ⟨(some 20), none, false, (.ias 6 (.t 17) (.t 19))⟩ :: q72_19
abbrev q72_21 : List RP := ⟨(some 19), none, false, (.bin .sub (.t 18) (.c (.int .i64 1)))⟩ :: q72_20
abbrev q72_22 : List RP := ⟨(some 18), none, false, (.mv (.t 1))⟩ :: q72_21
abbrev q72_23 : List RP := ⟨(some 17), none, false, (.ld false 1 (.t 16))⟩ :: q72_22
abbrev q72_24 : List RP := ⟨(some 16), none, false, (.fa 0 (.t 15))⟩ :: q72_23
abbrev q72_25 : List RP := ⟨(some 15), none, false, (.fa 0 (.t 2))⟩ :: q72_24
abbrev q72_26 : RQ := (.seq (.reg q72_25) .ret)
abbrev q72_27 : RQ := (.seq (.seq (.reg q72_11) q72_16) q72_26)
abbrev q72 : RQ := (.seq (.reg q72_3) q72_27)
theorem l72 : ∃ c, f72.body = some c ∧ liteC prog f72.ntmps c = some q72 := ⟨_, rfl, by kernel_rfl⟩
theorem e72 : prog.funcs[72]? = some f72 := by kernel_rfl
theorem r72 : mapO (resOf prog) f72.results.toList = some [(.c 4 true 6), (.t 5)] := by kernel_rfl
theorem n72 : f72.ntmps = 22 := rfl

abbrev q73_1 : List RP := ⟨(some 2), none, false, (.mv (.c .nils))⟩ :: []
abbrev q73_2 : List RP := ⟨(some 4), none, false, (.eqn false (.t 3) (.c .nils))⟩ :: []
abbrev q73_3 : List RP := ⟨(some 3), none, false, (.mv (.t 0))⟩ :: q73_2
abbrev q73_4 : List RP := ⟨(some 2), none, false, (.mv (.c .nils))⟩ :: []
abbrev q73_5 : RQ := (.seq (.reg q73_4) .ret)
abbrev q73_6 : RQ := (.cond (.t 4) q73_5 .skip)
abbrev q73_7 : List RP := ⟨(some 2), none, false, (.mv (.t 7))⟩ :: []
abbrev q73_8 : List RP := ⟨(some 7), none, false, (.app 6 48 [(.int .i64 0), (.int .i64 0), (.int .i64 0), (.int .u8 0), (.int .u64 0), (.int .u64 0)] (.t 5) (.t 6))⟩ :: q73_7
abbrev q73_9 : List RP := ⟨(some 6), none, true, (.mv (.t 0))⟩ :: q73_8
abbrev q73_10 : List RP := ⟨(some 5), none, false, (.bslice 6 0 [(.int .i64 0), (.int .i64 0), (.int .i64 0), (.int .u8 0), (.int .u64 0), (.int .u64 0)] [])⟩ :: q73_9
abbrev q73_11 : RQ := (.seq (.reg q73_10) .ret)
abbrev q73_12 : RQ := (.seq (.seq (.reg q73_3) q73_6) q73_11)
abbrev q73 : RQ := (.seq (.reg q73_1) q73_12)
theorem l73 : ∃ c, f73.body = some c ∧ liteC prog f73.ntmps c = some q73 := ⟨_, rfl, by kernel_rfl⟩
theorem e73 : prog.funcs[73]? = some f73 := by kernel_rfl
theorem r73 : mapO (resOf prog) f73.results.toList = some [(.t 2)] := by kernel_rfl
theorem n73 : f73.ntmps = 8 := rfl

abbrev q74_1 : List RP := ⟨(some 2), none, false, (.mv (.c .nils))⟩ :: []
abbrev q74_2 : List RP := ⟨(some 4), none, false, (.eqn false (.t 3) (.c .nils))⟩ :: []
abbrev q74_3 : List RP := ⟨(some 3), none, false, (.mv (.t 0))⟩ :: q74_2
abbrev q74_4 : List RP := ⟨(some 2), none, false, (.mv (.c .nils))⟩ :: []
abbrev q74_5 : RQ := (.seq (.reg q74_4) .ret)
abbrev q74_6 : RQ := (.cond (.t 4) q74_5 .skip)
abbrev q74_7 : List RP := ⟨(some 2), none, false, (.mv (.t 7))⟩ :: []
abbrev q74_8 : List RP := ⟨(some 7), none, false, (.app 1 8 [(.int .i64 0)] (.t 5) (.t 6))⟩ :: q74_7
abbrev q74_9 : List RP := ⟨(some 6), none, true, (.mv (.t 0))⟩ :: q74_8
abbrev q74_10 : List RP := ⟨(some 5), none, false, (.bslice 1 0 [(.int .i64 0)] [])⟩ :: q74_9
abbrev q74_11 : RQ := (.seq (.reg q74_10) .ret)
abbrev q74_12 : RQ := (.seq (.seq (.reg q74_3) q74_6) q74_11)
abbrev q74 : RQ := (.seq (.reg q74_1) q74_12)
theorem l74 : ∃ c, f74.body = some c ∧ liteC prog f74.ntmps c = some q74 := ⟨_, rfl, by kernel_rfl⟩
theorem e74 : prog.funcs[74]? = some f74 := by kernel_rfl
theorem r74 : mapO (resOf prog) f74.results.toList = some [(.t 2)] := by kernel_rfl
theorem n74 : f74.ntmps = 8 := rfl

abbrev q76_1 : List RP := ⟨(some 1), none, false, (.box (.t 0))⟩ :: []
abbrev q76_2 : List RP := ⟨none, none, false, (.st 8 (.t 2) (.t 4))⟩ :: []
abbrev q76_3 : List RP := ⟨(some 2), none, false, (.alloc [.nils, .nils, .nils, (.int .i64 0), (.int .i64 0), (.int .i64 0), (.int .i64 0), (.int .i64 0)])⟩ :: q76_2
abbrev q76_4 : List RP := ⟨(some 4), none, false, (.ld true 8 (.t 3))⟩ :: q76_3
abbrev q76_5 : List RP := ⟨(some 3), none, false, (.fa 4 (.t 1))⟩ :: q76_4
abbrev q76_6 : List RP := ⟨(some 10), none, false, (.cal 82 [(.t 9), (.c (.int .i64 70))])⟩ :: []
abbrev q76_7 : List RP := ⟨(some 9), none, true, (.cal 50 [(.c (.int .i64 1)), (.c (.int .i64 3)), (.t 8)])⟩ :: q76_6
abbrev q76_8 : List RP := ⟨(some 8), none, true, (.bslice 1 1 [(.int .i64 0)] [(0, (.t 7))])⟩ :: q76_7
abbrev q76_9 : List RP := ⟨(some 7), none, false, (.len (.t 6))⟩ :: q76_8
abbrev q76_10 : List RP := ⟨(some 6), none, false, (.ld false 1 (.t 5))⟩ :: q76_9
abbrev q76_11 : List RP := ⟨(some 5), none, false, (.fa 0 (.t 2))⟩ :: q76_10
abbrev q76_12 : List RP := ⟨(some 19), none, false, (.cal 82 [(.t 18), (.c (.int .i64 70))])⟩ :: []
abbrev q76_13 : List RP := ⟨(some 18), none, true, (.cal 50 [(.c (.int .i64 1)), (.c (.int .i64 3)), (.t 17)])⟩ :: q76_12
abbrev q76_14 : List RP := ⟨(some 17), none, true, (.bslice 1 2 [(.int .i64 0)] [(0, (.t 13)), (1, (.t 16))])⟩ :: q76_13
abbrev q76_15 : List RP := ⟨(some 16), none, false, (.len (.t 15))⟩ :: q76_14
abbrev q76_16 : List RP := ⟨(some 15), none, false, (.ld false 1 (.t 14))⟩ :: q76_15
abbrev q76_17 : List RP := ⟨(some 14), none, false, (.fa 2 (.t 2))⟩ :: q76_16
abbrev q76_18 : List RP := ⟨(some 13), none, false, (.len (.t 12))⟩ :: q76_17
abbrev q76_19 : List RP := ⟨(some 12), none, false, (.ld false 1 (.t 11))⟩ :: q76_18
abbrev q76_20 : List RP := ⟨(some 11), none, false, (.fa 1 (.t 2))⟩ :: q76_19
abbrev q76_21 : List RP := ⟨(some 26), none, false, (.cal 82 [(.t 25), (.c (.int .i64 70))])⟩ :: []
abbrev q76_22 : List RP := ⟨(some 25), none, true, (.cal 50 [(.c (.int .i64 1)), (.c (.int .i64 8)), (.t 24)])⟩ :: q76_21
abbrev q76_23 : List RP := ⟨(some 24), none, true, (.bslice 1 2 [(.int .i64 0)] [(0, (.t 21)), (1, (.t 23))])⟩ :: q76_22
abbrev q76_24 : List RP := ⟨(some 23), none, false, (.ld false 1 (.t 22))⟩ :: q76_23
abbrev q76_25 : List RP := ⟨(some 22), none, false, (.fa 4 (.t 2))⟩ :: q76_24
abbrev q76_26 : List RP := ⟨(some 21), none, false, (.ld false 1 (.t 20))⟩ :: q76_25
abbrev q76_27 : List RP := ⟨(some 20), none, false, (.fa 3 (.t 2))⟩ :: q76_26
abbrev q76_28 : List RP := ⟨(some 31), none, false, (.cal 82 [(.t 30), (.c (.int .i64 70))])⟩ :: []
abbrev q76_29 : List RP := ⟨(some 30), none, true, (.cal 50 [(.c (.int .i64 1)), (.c (.int .i64 8)), (.t 29)])⟩ :: q76_28
abbrev q76_30 : List RP := ⟨(some 29), none, true, (.bslice 1 1 [(.int .i64 0)] [(0, (.t 28))])⟩ :: q76_29
abbrev q76_31 : List RP := ⟨(some 28), none, false, (.ld false 1 (.t 27))⟩ :: q76_30
abbrev q76_32 : List RP := ⟨(some 27), none, false, (.fa 5 (.t 2))⟩ :: q76_31
abbrev q76_33 : List RP := ⟨(some 36), none, false, (.cal 82 [(.t 35), (.c (.int .i64 70))])⟩ :: []
abbrev q76_34 : List RP := ⟨(some 35), none, true, (.cal 50 [(.c (.int .i64 1)), (.c (.int .i64 16)), (.t 34)])⟩ :: q76_33
abbrev q76_35 : List RP := ⟨(some 34), none, true, (.bslice 1 1 [(.int .i64 0)] [(0, (.t 33))])⟩ :: q76_34
abbrev q76_36 : List RP := ⟨(some 33), none, false, (.ld false 1 (.t 32))⟩ :: q76_35
abbrev q76_37 : List RP := ⟨(some 32), none, false, (.fa 6 (.t 2))⟩ :: q76_36
abbrev q76_38 : List RP := ⟨(some 41), none, false, (.cal 82 [(.t 40), (.c (.int .i64 70))])⟩ :: []
abbrev q76_39 : List RP := ⟨(some 40), none, true, (.cal 50 [(.c (.int .i64 1)), (.c (.int .i64 64)), (.t 39)])⟩ :: q76_38
abbrev q76_40 : List RP := ⟨(some 39), none, true, (.bslice 1 1 [(.int .i64 0)] [(0, (.t 38))])⟩ :: q76_39
abbrev q76_41 : List RP := ⟨(some 38), none, false, (.ld false 1 (.t 37))⟩ :: q76_40
abbrev q76_42 : List RP := ⟨(some 37), none, false, (.fa 7 (.t 2))⟩ :: q76_41
abbrev q76_43 : RQ := (.reg q76_42)
abbrev q76_44 : RQ := (.seq (.reg q76_37) q76_43)
abbrev q76_45 : RQ := (.seq (.reg q76_32) q76_44)
abbrev q76_46 : RQ := (.seq (.reg q76_27) q76_45)
abbrev q76_47 : RQ := (.seq (.reg q76_20) q76_46)
abbrev q76_48 : RQ := (.seq (.reg q76_11) q76_47)
abbrev q76_49 : RQ := (.seq (.reg q76_5) q76_48)
abbrev q76 : RQ := (.seq (.reg q76_1) q76_49)
theorem l76 : ∃ c, f76.body = some c ∧ liteC prog f76.ntmps c = some q76 := ⟨_, rfl, by kernel_rfl⟩
theorem e76 : prog.funcs[76]? = some f76 := by kernel_rfl
theorem r76 : mapO (resOf prog) f76.results.toList = some [] := by kernel_rfl
theorem n76 : f76.ntmps = 42 := rfl

abbrev q77_1 : List RP := ⟨(some 1), none, false, (.box (.t 0))⟩ :: []
abbrev q77_2 : List RP := ⟨(some 9), none, false, (.cal 82 [(.t 8), (.c (.int .i64 8))])⟩ :: []
abbrev q77_3 : List RP := ⟨(some 8), none, true, (.bin .leq (.t 7) (.c (.int .i64 64)))⟩ :: q77_2
abbrev q77_4 : List RP := ⟨(some 7), none, false, (.len (.t 6))⟩ :: q77_3
abbrev q77_5 : List RP := ⟨(some 6), none, false, (.ld false 1 (.t 5))⟩ :: q77_4
abbrev q77_6 : List RP := ⟨(some 5), none, false, (.fa 0 (.t 4))⟩ :: q77_5
abbrev q77_7 : List RP := ⟨(some 4), none, false, (.fa 0 (.t 1))⟩ :: q77_6
abbrev q77_8 : List RP := ⟨(some 14), none, false, (.mv (.c (.int .i64 0)))⟩ :: []
abbrev q77_9 : List RP := ⟨(some 13), none, false, (.len (.t 12))⟩ :: q77_8
abbrev q77_10 : List RP := ⟨(some 12), none, false, (.ld false 1 (.t 11))⟩ :: q77_9
abbrev q77_11 : List RP := ⟨(some 11), none, false, (.fa 0 (.t 10))⟩ :: q77_10
abbrev q77_12 : List RP := ⟨(some 10), none, false, (.fa 0 (.t 1))⟩ :: q77_11
abbrev q77_13 : List RP := ⟨(some 15), none, false, (.bin .lss (.t 14) (.t 13))⟩ :: []
abbrev q77_14 : RQ := (.exit 0)
abbrev q77_15 : List RP := ⟨none, none, false, (.st 6 (.t 3) (.t 18))⟩ :: []
abbrev q77_16 : List RP := ⟨(some 2), none, false, (.mv (.t 16))⟩ :: q77_15
abbrev q77_17 : List RP := ⟨(some 3), none, false, (.alloc [(.int .i64 0), (.int .i64 0), (.int .i64 0), (.int .u8 0), (.int .u64 0), (.int .u64 0)])⟩ :: q77_16
abbrev q77_18 : List RP := ⟨(some 18), none, false, (.ld true 6 (.t 17))⟩ :: q77_17
abbrev q77_19 : List RP := ⟨(some 17), none, false, (.ias 6 (.t 12) (.t 14))⟩ :: q77_18
abbrev q77_20 : List RP := ⟨(some 16), none, false, (.mv (.t 14))⟩ :: q77_19
abbrev q77_21 : List RP := ⟨(some 37), none, false, (.cal 82 [(.t 36), (.c (.int .i64 8))])⟩ :: []
abbrev q77_22 : List RP := ⟨(some 36), none, true, (.pick (.t 29) (.t 35) (.c (.bool false)))⟩ :: q77_21
abbrev q77_23 : List RP := ⟨(some 35), (some (29, true)), false, (.cal 54 [(.t 30), (.t 32), (.t 34)])⟩ :: q77_22
abbrev q77_24 : List RP := ⟨(some 34), (some (29, true)), true, (.ld false 1 (.t 33))⟩ :: q77_23
abbrev q77_25 : List RP := ⟨(some 33), (some (29, true)), false, (.fa 2 (.t 3))⟩ :: q77_24
abbrev q77_26 : List RP := ⟨(some 32), (some (29, true)), true, (.ld false 1 (.t 31))⟩ :: q77_25
abbrev q77_27 : List RP := ⟨(some 31), (some (29, true)), false, (.fa 1 (.t 3))⟩ :: q77_26
abbrev q77_28 : List RP := ⟨(some 30), (some (29, true)), true, (.ld true 12 (.t 1))⟩ :: q77_27
abbrev q77_29 : List RP := ⟨(some 29), none, false, (.mv (.t 28))⟩ :: q77_28
abbrev q77_30 : List RP := ⟨(some 28), none, false, (.pick (.t 24) (.t 27) (.c (.bool false)))⟩ :: q77_29
abbrev q77_31 : List RP := ⟨(some 27), (some (24, true)), false, (.bin .eql (.t 26) (.c (.int .i64 0)))⟩ :: q77_30
abbrev q77_32 : List RP := ⟨(some 26), (some (24, true)), false, (.cal 31 [(.t 25)])⟩ :: q77_31
abbrev q77_33 : List RP := ⟨(some 25), (some (24, true)), true, (.ld true 6 (.t 3))⟩ :: q77_32
abbrev q77_34 : List RP := ⟨(some 24), none, false, (.mv (.t 23))⟩ :: q77_33
abbrev q77_35 : List RP := ⟨(some 23), none, false, (.bin .eql (.t 20) (.t 22))⟩ :: q77_34
abbrev q77_36 : List RP := ⟨(some 22), none, false, (.bin .add (.t 21) (.c (.int .i64 1)))⟩ :: q77_35
abbrev q77_37 : List RP := ⟨(some 21), none, false, (.mv (.t 2))⟩ :: q77_36
abbrev q77_38 : List RP := ⟨(some 20), none, false, (.ld false 1 (.t 19))⟩ :: q77_37
abbrev q77_39 : List RP := ⟨(some 19), none, false, (.fa 0 (.t 3))⟩ :: q77_38
abbrev q77_40 : RQ := (.reg q77_39)
abbrev q77_41 : List RP := ⟨(some 14), none, false, (.mv (.t 38))⟩ :: []
abbrev q77_42 : List RP := ⟨(some 38), none, false, (.bin .add (.t 14) (.c (.int .i64 1)))⟩ :: q77_41
abbrev q77_43 : RQ := (.reg q77_42)
abbrev q77_44 : RQ := (.seq (.block 1 (.seq (.reg q77_20) q77_40)) q77_43)
abbrev q77_45 : RQ := (.seq (.cond (.t 15) .skip q77_14) q77_44)
abbrev q77_46 : RQ := (.seq (.reg q77_13) q77_45)
abbrev q77_47 : RQ := (.block 0 (.loop q77_46))
abbrev q77_48 : RQ := (.seq (.reg q77_12) q77_47)
abbrev q77_49 : RQ := (.seq (.reg q77_7) q77_48)
abbrev q77 : RQ := (.seq (.reg q77_1) q77_49)
theorem l77 : ∃ c, f77.body = some c ∧ liteC prog f77.ntmps c = some q77 := ⟨_, rfl, by kernel_rfl⟩
theorem e77 : prog.funcs[77]? = some f77 := by kernel_rfl
theorem r77 : mapO (resOf prog) f77.results.toList = some [] := by kernel_rfl
theorem n77 : f77.ntmps = 39 := rfl

abbrev q78_1 : List RP := ⟨(some 1), none, false, (.box (.t 0))⟩ :: []
abbrev q78_2 : List (Bool × RP) := (false, ⟨(some 17), none, true, (.pick (.t 10) (.t 16) (.c (.bool false)))⟩) :: []
abbrev q78_3 : List (Bool × RP) := (false, ⟨(some 16), (some (10, true)), false, (.cal 83 [(.t 13), (.t 15)])⟩) :: q78_2
abbrev q78_4 : List (Bool × RP) := (false, ⟨(some 15), (some (10, true)), true, (.cal 81 [(.t 14)])⟩) :: q78_3
abbrev q78_5 : List (Bool × RP) := (false, ⟨(some 14), (some (10, true)), true, (.ld true 12 (.t 1))⟩) :: q78_4
abbrev q78_6 : List (Bool × RP) := (false, ⟨(some 13), (some (10, true)), true, (.ld false 1 (.t 12))⟩) :: q78_5
abbrev q78_7 : List (Bool × RP) := (false, ⟨(some 12), (some (10, true)), false, (.fa 1 (.t 11))⟩) :: q78_6
abbrev q78_8 : List (Bool × RP) := (false, ⟨(some 11), (some (10, true)), false, (.fa 0 (.t 1))⟩) :: q78_7
abbrev q78_9 : List (Bool × RP) := (false, ⟨(some 10), none, false, (.mv (.t 9))⟩) :: q78_8
abbrev q78_10 : List (Bool × RP) := (false, ⟨(some 9), none, false, (.bin .leq (.t 5) (.t 8))⟩) :: q78_9
abbrev q78_11 : List (Bool × RP) := (false, ⟨(some 8), none, false, (.ld false 1 (.t 7))⟩) :: q78_10
abbrev q78_12 : List (Bool × RP) := (false, ⟨(some 7), none, false, (.fa 5 (.t 6))⟩) :: q78_11
abbrev q78_13 : List (Bool × RP) := (false, ⟨(some 6), none, false, (.fa 4 (.t 1))⟩) :: q78_12
abbrev q78_14 : List (Bool × RP) := (false, ⟨(some 5), none, false, (.len (.t 4))⟩) :: q78_13
abbrev q78_15 : List (Bool × RP) := (false, ⟨(some 4), none, false, (.ld false 1 (.t 3))⟩) :: q78_14
abbrev q78_16 : List (Bool × RP) := (false, ⟨(some 3), none, false, (.fa 1 (.t 2))⟩) :: q78_15
abbrev q78_17 : List (Bool × RP) := (false, ⟨(some 2), none, false, (.fa 0 (.t 1))⟩) :: q78_16
abbrev q78_18 : List RP := ⟨(some 18), none, false, (.cal 82 [(.t 17), (.c (.int .i64 8))])⟩ :: []
abbrev q78_19 : RQ := (.drw q78_17 q78_18)
abbrev q78 : RQ := (.seq (.reg q78_1) q78_19)
theorem l78 : ∃ c, f78.body = some c ∧ liteC prog f78.ntmps c = some q78 := ⟨_, rfl, by kernel_rfl⟩
theorem e78 : prog.funcs[78]? = some f78 := by kernel_rfl
theorem r78 : mapO (resOf prog) f78.results.toList = some [] := by kernel_rfl
theorem n78 : f78.ntmps = 19 := rfl

abbrev q79_1 : List RP := ⟨(some 1), none, false, (.box (.t 0))⟩ :: []
abbrev q79_2 : List RP := ⟨(some 13), none, false, (.cal 82 [(.t 12), (.c (.int .i64 8))])⟩ :: []
abbrev q79_3 : List RP := ⟨(some 12), none, true, (.bin .eql (.t 11) (.c (.int .i64 0)))⟩ :: q79_2
abbrev q79_4 : List RP := ⟨(some 11), none, false, (.cal 21 [(.t 4), (.t 7), (.t 10)])⟩ :: q79_3
abbrev q79_5 : List RP := ⟨(some 10), none, true, (.ld false 1 (.t 9))⟩ :: q79_4
abbrev q79_6 : List RP := ⟨(some 9), none, false, (.fa 6 (.t 8))⟩ :: q79_5
abbrev q79_7 : List RP := ⟨(some 8), none, false, (.fa 4 (.t 1))⟩ :: q79_6
abbrev q79_8 : List RP := ⟨(some 7), none, true, (.ld false 1 (.t 6))⟩ :: q79_7
abbrev q79_9 : List RP := ⟨(some 6), none, false, (.fa 7 (.t 5))⟩ :: q79_8
abbrev q79_10 : List RP := ⟨(some 5), none, false, (.fa 4 (.t 1))⟩ :: q79_9
abbrev q79_11 : List RP := ⟨(some 4), none, true, (.ld true 2 (.t 3))⟩ :: q79_10
abbrev q79_12 : List RP := ⟨(some 3), none, false, (.fa 2 (.t 2))⟩ :: q79_11
abbrev q79_13 : List RP := ⟨(some 2), none, false, (.fa 0 (.t 1))⟩ :: q79_12
abbrev q79_14 : RQ := (.reg q79_13)
abbrev q79 : RQ := (.seq (.reg q79_1) q79_14)
theorem l79 : ∃ c, f79.body = some c ∧ liteC prog f79.ntmps c = some q79 := ⟨_, rfl, by kernel_rfl⟩
theorem e79 : prog.funcs[79]? = some f79 := by kernel_rfl
theorem r79 : mapO (resOf prog) f79.results.toList = some [] := by kernel_rfl
theorem n79 : f79.ntmps = 14 := rfl

abbrev q80_1 : List RP := ⟨(some 11), none, false, (.mv (.c (.int .i64 0)))⟩ :: []
abbrev q80_2 : List RP := ⟨(some 10), none, false, (.alloc [.nils, .nils, (.int .u64 0), (.int .i64 0)])⟩ :: q80_1
abbrev q80_3 : List RP := ⟨(some 6), none, false, (.box (.t 1))⟩ :: q80_2
abbrev q80_4 : List RP := ⟨(some 5), none, false, (.box (.t 0))⟩ :: q80_3
abbrev q80_5 : List RP := ⟨(some 13), none, false, (.mv (.t 20))⟩ :: []
abbrev q80_6 : List RP := ⟨none, none, false, (.st 6 (.t 12) (.t 19))⟩ :: q80_5
abbrev q80_7 : List RP := ⟨(some 12), none, false, (.alloc [(.int .i64 0), (.int .i64 0), (.int .i64 0), (.int .u8 0), (.int .u64 0), (.int .u64 0)])⟩ :: q80_6
abbrev q80_8 : List RP := ⟨(some 20), none, false, (.ext (.t 14) 1)⟩ :: q80_7
abbrev q80_9 : List RP := ⟨(some 19), none, false, (.ext (.t 14) 0)⟩ :: q80_8
abbrev q80_10 : List RP := ⟨(some 14), none, false, (.mv (.t 18))⟩ :: q80_9
abbrev q80_11 : List RP := ⟨(some 18), none, false, (.cal 66 [(.t 15), (.t 16), (.t 17)])⟩ :: q80_10
abbrev q80_12 : List RP := ⟨(some 17), none, true, (.mv (.t 2))⟩ :: q80_11
abbrev q80_13 : List RP := ⟨(some 16), none, true, (.ld true 4 (.t 6))⟩ :: q80_12
abbrev q80_14 : List RP := ⟨(some 15), none, true, (.ld true 8 (.t 5))⟩ :: q80_13
abbrev q80_15 : List RP := ⟨(some 22), none, false, (.bin .neq (.t 21) (.c (.int .i64 0)))⟩ :: []
abbrev q80_16 : List RP := ⟨(some 21), none, false, (.mv (.t 13))⟩ :: q80_15
abbrev q80_17 : List RP := ⟨(some 11), none, false, (.mv (.t 24))⟩ :: []
abbrev q80_18 : List RP := ⟨none, none, false, (.st 4 (.t 10) (.t 23))⟩ :: q80_17
abbrev q80_19 : List RP := ⟨(some 24), none, false, (.mv (.t 13))⟩ :: q80_18
abbrev q80_20 : List RP := ⟨(some 23), none, false, (.build [.nils, .nils, (.int .u64 0), (.int .i64 0)] [])⟩ :: q80_19
abbrev q80_21 : RQ := (.seq (.reg q80_20) .ret)
abbrev q80_22 : RQ := (.cond (.t 22) q80_21 .skip)
abbrev q80_23 : List RP := ⟨(some 13), none, false, (.mv (.t 31))⟩ :: []
abbrev q80_24 : List RP := ⟨none, none, false, (.st 6 (.t 12) (.t 30))⟩ :: q80_23
abbrev q80_25 : List RP := ⟨(some 31), none, false, (.ext (.t 25) 1)⟩ :: q80_24
abbrev q80_26 : List RP := ⟨(some 30), none, false, (.ext (.t 25) 0)⟩ :: q80_25
abbrev q80_27 : List RP := ⟨(some 25), none, false, (.mv (.t 29))⟩ :: q80_26
abbrev q80_28 : List RP := ⟨(some 29), none, false, (.cal 33 [(.t 26), (.t 27), (.t 28)])⟩ :: q80_27
abbrev q80_29 : List RP := ⟨(some 28), none, true, (.mv (.t 4))⟩ :: q80_28
abbrev q80_30 : List RP := ⟨(some 27), none, true, (.mv (.t 3))⟩ :: q80_29
abbrev q80_31 : List RP := ⟨(some 26), none, true, (.ld true 6 (.t 12))⟩ :: q80_30
abbrev q80_32 : List RP := ⟨(some 33), none, false, (.bin .neq (.t 32) (.c (.int .i64 0)))⟩ :: []
abbrev q80_33 : List RP := ⟨(some 32), none, false, (.mv (.t 13))⟩ :: q80_32
abbrev q80_34 : List RP := ⟨(some 11), none, false, (.mv (.t 35))⟩ :: []
abbrev q80_35 : List RP := ⟨none, none, false, (.st 4 (.t 10) (.t 34))⟩ :: q80_34
abbrev q80_36 : List RP := ⟨(some 35), none, false, (.mv (.t 13))⟩ :: q80_35
abbrev q80_37 : List RP := ⟨(some 34), none, false, (.build [.nils, .nils, (.int .u64 0), (.int .i64 0)] [])⟩ :: q80_36
abbrev q80_38 : RQ := (.seq (.reg q80_37) .ret)
abbrev q80_39 : RQ := (.cond (.t 33) q80_38 .skip)
abbrev q80_40 : List RP := ⟨(some 11), none, false, (.mv (.c (.int .i64 0)))⟩ :: []
abbrev q80_41 : List RP := ⟨none, none, false, (.st 4 (.t 10) (.t 38))⟩ :: q80_40
abbrev q80_42 : List RP := ⟨(some 38), none, false, (.cal 84 [(.t 36), (.t 37)])⟩ :: q80_41
abbrev q80_43 : List RP := ⟨(some 37), none, true, (.ld true 6 (.t 12))⟩ :: q80_42
abbrev q80_44 : List RP := ⟨(some 36), none, true, (.ld true 4 (.t 6))⟩ :: q80_43
abbrev q80_45 : RQ := (.seq (.reg q80_44) .ret)
abbrev q80_46 : RQ := (.seq (.seq (.reg q80_33) q80_39) q80_45)
abbrev q80_47 : RQ := (.seq (.reg q80_31) q80_46)
abbrev q80_48 : RQ := (.seq (.seq (.reg q80_16) q80_22) q80_47)
abbrev q80_49 : RQ := (.seq (.reg q80_14) q80_48)
abbrev q80 : RQ := (.seq (.reg q80_4) q80_49)
theorem l80 : ∃ c, f80.body = some c ∧ liteC prog f80.ntmps c = some q80 := ⟨_, rfl, by kernel_rfl⟩
theorem e80 : prog.funcs[80]? = some f80 := by kernel_rfl
theorem r80 : mapO (resOf prog) f80.results.toList = some [(.c 10 true 4), (.t 11)] := by kernel_rfl
theorem n80 : f80.ntmps = 39 := rfl

abbrev q81_1 : List RP := ⟨(some 2), none, false, (.mv (.c .nils))⟩ :: []
abbrev q81_2 : List RP := ⟨(some 1), none, false, (.box (.t 0))⟩ :: q81_1
abbrev q81_3 : List RP := ⟨(some 2), none, false, (.mv (.t 6))⟩ :: []
abbrev q81_4 : List RP := ⟨(some 6), none, false, (.cal 85 [(.t 5), (.f 86)])⟩ :: q81_3
abbrev q81_5 : List RP := ⟨(some 5), none, true, (.ld false 1 (.t 4))⟩ :: q81_4
abbrev q81_6 : List RP := ⟨(some 4), none, false, (.fa 0 (.t 3))⟩ :: q81_5
abbrev q81_7 : List RP := ⟨(some 3), none, false, (.fa 0 (.t 1))⟩ :: q81_6
abbrev q81_8 : RQ := (.seq (.reg q81_7) .ret)
abbrev q81 : RQ := (.seq (.reg q81_2) q81_8)
theorem l81 : ∃ c, f81.body = some c ∧ liteC prog f81.ntmps c = some q81 := ⟨_, rfl, by kernel_rfl⟩
theorem e81 : prog.funcs[81]? = some f81 := by kernel_rfl
theorem r81 : mapO (resOf prog) f81.results.toList = some [(.t 2)] := by kernel_rfl
theorem n81 : f81.ntmps = 7 := rfl

abbrev q82_1 : List RP := ⟨(some 5), none, false, (.not (.t 4))⟩ :: []
abbrev q82_2 : List RP := ⟨(some 4), none, false, (.mv (.t 0))⟩ :: q82_1
abbrev q82_3 : List RP := ⟨none, none, false, (.pan (.t 7))⟩ :: []
abbrev q82_4 : List RP := ⟨(some 7), none, false, (.mki 25 (.t 6))⟩ :: q82_3
abbrev q82_5 : List RP := ⟨(some 6), none, false, (.mv (.t 1))⟩ :: q82_4
abbrev q82_6 : RQ := (.reg q82_5)
abbrev q82_7 : RQ := (.cond (.t 5) q82_6 .skip)
abbrev q82 : RQ := (.seq (.reg q82_2) q82_7)
theorem l82 : ∃ c, f82.body = some c ∧ liteC prog f82.ntmps c = some q82 := ⟨_, rfl, by kernel_rfl⟩
theorem e82 : prog.funcs[82]? = some f82 := by kernel_rfl
theorem r82 : mapO (resOf prog) f82.results.toList = some [] := by kernel_rfl
theorem n82 : f82.ntmps = 8 := rfl

abbrev q83_1 : List RP := ⟨(some 4), none, false, (.mv (.c (.bool false)))⟩ :: []
abbrev q83_2 : List RP := ⟨(some 10), none, false, (.bin .neq (.t 7) (.t 9))⟩ :: []
abbrev q83_3 : List RP := ⟨(some 9), none, false, (.len (.t 8))⟩ :: q83_2
abbrev q83_4 : List RP := ⟨(some 8), none, false, (.mv (.t 1))⟩ :: q83_3
abbrev q83_5 : List RP := ⟨(some 7), none, false, (.len (.t 6))⟩ :: q83_4
abbrev q83_6 : List RP := ⟨(some 6), none, false, (.mv (.t 0))⟩ :: q83_5
abbrev q83_7 : List RP := ⟨(some 4), none, false, (.mv (.c (.bool false)))⟩ :: []
abbrev q83_8 : RQ := (.seq (.reg q83_7) .ret)
abbrev q83_9 : RQ := (.cond (.t 10) q83_8 .skip)
abbrev q83_10 : List RP := ⟨(some 13), none, false, (.mv (.c (.int .i64 0)))⟩ :: []
abbrev q83_11 : List RP := ⟨(some 12), none, false, (.len (.t 11))⟩ :: q83_10
abbrev q83_12 : List RP := ⟨(some 11), none, false, (.mv (.t 0))⟩ :: q83_11
abbrev q83_13 : List RP := ⟨(some 14), none, false, (.bin .lss (.t 13) (.t 12))⟩ :: []
abbrev q83_14 : RQ := (.exit 0)
abbrev q83_15 : List RP := ⟨(some 5), none, false, (.mv (.t 15))⟩ :: []
abbrev q83_16 : List RP := ⟨(some 15), none, false, (.mv (.t 13))⟩ :: q83_15
abbrev q83_17 : List (Bool × RP) := (false, ⟨(some 24), none, false, (.bin .neq (.t 19) (.t 23))⟩) :: []
abbrev q83_18 : List (Bool × RP) := (false, ⟨(some 23), none, false, (.ld false 1 (.t 22))⟩) :: q83_17
abbrev q83_19 : List (Bool × RP) := (false, ⟨(some 22), none, false, (.ias 1 (.t 20) (.t 21))⟩) :: q83_18
abbrev q83_20 : List (Bool × RP) := (false, ⟨(some 21), none, false, (.mv (.t 5))⟩) :: q83_19
abbrev q83_21 : List (Bool × RP) := (false, ⟨(some 20), none, false, (.mv (.t 1))⟩) :: q83_20
abbrev q83_22 : List (Bool × RP) := (false, ⟨(some 19), none, false, (.ld false 1 (.t 18))⟩) :: q83_21
abbrev q83_23 : List (Bool × RP) := (false, ⟨(some 18), none, false, (.ias 1 (.t 16) (.t 17))⟩) :: q83_22
abbrev q83_24 : List (Bool × RP) := (false, ⟨(some 17), none, false, (.mv (.t 5))⟩) :: q83_23
abbrev q83_25 : List (Bool × RP) := (false, ⟨(some 16), none, false, (.mv (.t 0))⟩) :: q83_24
abbrev q83_26 : List RP := ⟨(some 4), none, false, (.mv (.c (.bool false)))⟩ :: []
abbrev q83_27 : RQ := (.seq (.reg q83_26) .ret)
abbrev q83_28 : RQ := (.cond (.t 24) q83_27 .skip)
abbrev q83_29 : RQ := (.seq (.drw q83_25 []) q83_28)
abbrev q83_30 : List RP := ⟨(some 13), none, false, (.mv (.t 25))⟩ :: []
abbrev q83_31 : List RP := ⟨(some 25), none, false, (.bin .add (.t 13) (.c (.int .i64 1)))⟩ :: q83_30
abbrev q83_32 : RQ := (.reg q83_31)
abbrev q83_33 : RQ := (.seq (.block 1 (.seq (.reg q83_16) q83_29)) q83_32)
abbrev q83_34 : RQ := (.seq (.cond (.t 14) .skip q83_14) q83_33)
abbrev q83_35 : RQ := (.seq (.reg q83_13) q83_34)
abbrev q83_36 : RQ := (.block 0 (.loop q83_35))
abbrev q83_37 : List RP := ⟨(some 4), none, false, (.mv (.c (.bool true)))⟩ :: []
abbrev q83_38 : RQ := (.seq (.reg q83_37) .ret)
abbrev q83_39 : RQ := (.seq (.seq (.reg q83_12) q83_36) q83_38)
abbrev q83_40 : RQ := (.seq (.seq (.reg q83_6) q83_9) q83_39)
abbrev q83 : RQ := (.seq (.reg q83_1) q83_40)
theorem l83 : ∃ c, f83.body = some c ∧ liteC prog f83.ntmps c = some q83 := ⟨_, rfl, by kernel_rfl⟩
theorem e83 : prog.funcs[83]? = some f83 := by kernel_rfl
theorem r83 : mapO (resOf prog) f83.results.toList = some [(.t 4)] := by kernel_rfl
theorem n83 : f83.ntmps = 26 := rfl

abbrev q84_1 : List RP := ⟨(some 4), none, false, (.alloc [.nils, .nils, (.int .u64 0), (.int .i64 0)])⟩ :: []
abbrev q84_2 : List RP := ⟨(some 3), none, false, (.box (.t 1))⟩ :: q84_1
abbrev q84_3 : List RP := ⟨(some 2), none, false, (.box (.t 0))⟩ :: q84_2
abbrev q84_4 : List RP := ⟨none, none, false, (.st 4 (.t 2) (.t 6))⟩ :: []
abbrev q84_5 : List RP := ⟨(some 6), none, false, (.cal 37 [(.t 5)])⟩ :: q84_4
abbrev q84_6 : List RP := ⟨(some 5), none, true, (.ld true 4 (.t 2))⟩ :: q84_5
abbrev q84_7 : List RP := ⟨none, none, false, (.st 6 (.t 13) (.t 12))⟩ :: []
abbrev q84_8 : List RP := ⟨(some 13), none, false, (.ias 6 (.t 8) (.t 11))⟩ :: q84_7
abbrev q84_9 : List RP := ⟨(some 12), none, false, (.ld true 6 (.t 3))⟩ :: q84_8
abbrev q84_10 : List RP := ⟨(some 11), none, false, (.bin .sub (.t 10) (.c (.int .i64 1)))⟩ :: q84_9
abbrev q84_11 : List RP := ⟨(some 10), none, false, (.ld false 1 (.t 9))⟩ :: q84_10
abbrev q84_12 : List RP := ⟨(some 9), none, false, (.fa 0 (.t 3))⟩ :: q84_11
abbrev q84_13 : List RP := ⟨(some 8), none, false, (.ld false 1 (.t 7))⟩ :: q84_12
abbrev q84_14 : List RP := ⟨(some 7), none, false, (.fa 0 (.t 2))⟩ :: q84_13
abbrev q84_15 : List RP := ⟨none, none, false, (.st 1 (.t 17) (.t 16))⟩ :: []
abbrev q84_16 : List RP := ⟨(some 17), none, false, (.fa 1 (.t 2))⟩ :: q84_15
abbrev q84_17 : List RP := ⟨(some 16), none, false, (.cal 70 [(.t 15)])⟩ :: q84_16
abbrev q84_18 : List RP := ⟨(some 15), none, true, (.ld false 1 (.t 14))⟩ :: q84_17
abbrev q84_19 : List RP := ⟨(some 14), none, false, (.fa 0 (.t 2))⟩ :: q84_18
abbrev q84_20 : List RP := ⟨none, none, false, (.st 4 (.t 4) (.t 18))⟩ :: []
abbrev q84_21 : List RP := ⟨(some 18), none, false, (.ld true 4 (.t 2))⟩ :: q84_20
abbrev q84_22 : RQ := (.seq (.reg q84_21) .ret)
abbrev q84_23 : RQ := (.seq (.reg q84_19) q84_22)
abbrev q84_24 : RQ := (.seq (.reg q84_14) q84_23)
abbrev q84_25 : RQ := (.seq (.reg q84_6) q84_24)
abbrev q84 : RQ := (.seq (.reg q84_3) q84_25)
theorem l84 : ∃ c, f84.body = some c ∧ liteC prog f84.ntmps c = some q84 := ⟨_, rfl, by kernel_rfl⟩
theorem e84 : prog.funcs[84]? = some f84 := by kernel_rfl
theorem r84 : mapO (resOf prog) f84.results.toList = some [(.c 4 true 4)] := by kernel_rfl
theorem n84 : f84.ntmps = 19 := rfl

abbrev q85_1 : List RP := ⟨(some 4), none, false, (.mv (.c .nils))⟩ :: []
abbrev q85_2 : List RP := ⟨(some 5), none, false, (.mv (.c .nils))⟩ :: []
abbrev q85_3 : List RP := ⟨(some 10), none, false, (.mv (.c (.int .i64 0)))⟩ :: []
abbrev q85_4 : List RP := ⟨(some 9), none, false, (.len (.t 8))⟩ :: q85_3
abbrev q85_5 : List RP := ⟨(some 8), none, false, (.mv (.t 0))⟩ :: q85_4
abbrev q85_6 : List RP := ⟨(some 11), none, false, (.bin .lss (.t 10) (.t 9))⟩ :: []
abbrev q85_7 : RQ := (.exit 0)
abbrev q85_8 : List RP := ⟨none, none, false, (.st 6 (.t 7) (.t 14))⟩ :: []
abbrev q85_9 : List RP := ⟨(some 6), none, false, (.mv (.t 12))⟩ :: q85_8
abbrev q85_10 : List RP := ⟨(some 7), none, false, (.alloc [(.int .i64 0), (.int .i64 0), (.int .i64 0), (.int .u8 0), (.int .u64 0), (.int .u64 0)])⟩ :: q85_9
abbrev q85_11 : List RP := ⟨(some 14), none, false, (.ld true 6 (.t 13))⟩ :: q85_10
abbrev q85_12 : List RP := ⟨(some 13), none, false, (.ias 6 (.t 8) (.t 10))⟩ :: q85_11
abbrev q85_13 : List RP := ⟨(some 12), none, false, (.mv (.t 10))⟩ :: q85_12
abbrev q85_14 : List RP := ⟨(some 17), none, false, (.cav (.t 15) [(.t 16)])⟩ :: []
abbrev q85_15 : List RP := ⟨(some 16), none, true, (.ld true 6 (.t 7))⟩ :: q85_14
abbrev q85_16 : List RP := ⟨(some 15), none, false, (.mv (.t 1))⟩ :: q85_15
abbrev q85_17 : List RP := ⟨(some 5), none, false, (.mv (.t 22))⟩ :: []
abbrev q85_18 : List RP := ⟨(some 22), none, false, (.app 1 8 [(.int .i64 0)] (.t 18) (.t 21))⟩ :: q85_17
abbrev q85_19 : List RP := ⟨(some 21), none, true, (.bslice 1 1 [(.int .i64 0)] [(0, (.t 20))])⟩ :: q85_18
abbrev q85_20 : List RP := ⟨(some 20), none, false, (.bin .add (.t 19) (.c (.int .i64 1)))⟩ :: q85_19
abbrev q85_21 : List RP := ⟨(some 19), none, false, (.mv (.t 6))⟩ :: q85_20
abbrev q85_22 : List RP := ⟨(some 18), none, false, (.mv (.t 5))⟩ :: q85_21
abbrev q85_23 : RQ := (.reg q85_22)
abbrev q85_24 : RQ := (.cond (.t 17) q85_23 .skip)
abbrev q85_25 : RQ := (.seq (.reg q85_16) q85_24)
abbrev q85_26 : List RP := ⟨(some 10), none, false, (.mv (.t 23))⟩ :: []
abbrev q85_27 : List RP := ⟨(some 23), none, false, (.bin .add (.t 10) (.c (.int .i64 1)))⟩ :: q85_26
abbrev q85_28 : RQ := (.reg q85_27)
abbrev q85_29 : RQ := (.seq (.block 1 (.seq (.reg q85_13) q85_25)) q85_28)
abbrev q85_30 : RQ := (.seq (.cond (.t 11) .skip q85_7) q85_29)
abbrev q85_31 : RQ := (.seq (.reg q85_6) q85_30)
abbrev q85_32 : RQ := (.block 0 (.loop q85_31))
abbrev q85_33 : List RP := ⟨(some 4), none, false, (.mv (.t 24))⟩ :: []
abbrev q85_34 : List RP := ⟨(some 24), none, false, (.mv (.t 5))⟩ :: q85_33
abbrev q85_35 : RQ := (.seq (.reg q85_34) .ret)
abbrev q85_36 : RQ := (.seq (.seq (.reg q85_5) q85_32) q85_35)
abbrev q85_37 : RQ := (.seq (.reg q85_2) q85_36)
abbrev q85 : RQ := (.seq (.reg q85_1) q85_37)
theorem l85 : ∃ c, f85.body = some c ∧ liteC prog f85.ntmps c = some q85 := ⟨_, rfl, by kernel_rfl⟩
theorem e85 : prog.funcs[85]? = some f85 := by kernel_rfl
theorem r85 : mapO (resOf prog) f85.results.toList = some [(.t 4)] := by kernel_rfl
theorem n85 : f85.ntmps = 25 := rfl

abbrev q86_1 : List RP := ⟨(some 2), none, false, (.mv (.c (.bool false)))⟩ :: []
abbrev q86_2 : List RP := ⟨(some 1), none, false, (.box (.t 0))⟩ :: q86_1
abbrev q86_3 : List RP := ⟨(some 2), none, false, (.mv (.t 5))⟩ :: []
abbrev q86_4 : List RP := ⟨(some 5), none, false, (.bin .eql (.t 4) (.c (.int .u8 1)))⟩ :: q86_3
abbrev q86_5 : List RP := ⟨(some 4), none, false, (.ld false 1 (.t 3))⟩ :: q86_4
abbrev q86_6 : List RP := ⟨(some 3), none, false, (.fa 3 (.t 1))⟩ :: q86_5
abbrev q86_7 : RQ := (.seq (.reg q86_6) .ret)
abbrev q86 : RQ := (.seq (.reg q86_2) q86_7)
theorem l86 : ∃ c, f86.body = some c ∧ liteC prog f86.ntmps c = some q86 := ⟨_, rfl, by kernel_rfl⟩
theorem e86 : prog.funcs[86]? = some f86 := by kernel_rfl
theorem r86 : mapO (resOf prog) f86.results.toList = some [(.t 2)] := by kernel_rfl
theorem n86 : f86.ntmps = 6 := rfl

abbrev q55b1 : List RP := ⟨(some 5), none, false, (.cal 76 [(.t 4)])⟩ :: []
abbrev q55b2 : List RP := ⟨(some 4), none, true, (.ld true 12 (.t 1))⟩ :: q55b1
abbrev q55b3 : List RP := ⟨(some 7), none, false, (.cal 77 [(.t 6)])⟩ :: []
abbrev q55b4 : List RP := ⟨(some 6), none, true, (.ld true 12 (.t 1))⟩ :: q55b3
abbrev q55b5 : List RP := ⟨(some 9), none, false, (.cal 78 [(.t 8)])⟩ :: []
abbrev q55b6 : List RP := ⟨(some 8), none, true, (.ld true 12 (.t 1))⟩ :: q55b5
abbrev q55b7 : List RP := ⟨(some 11), none, false, (.cal 79 [(.t 10)])⟩ :: []
abbrev q55b8 : List RP := ⟨(some 10), none, true, (.ld true 12 (.t 1))⟩ :: q55b7
abbrev q55b9 : List RP := ⟨none, none, false, (.st 1 (.t 2) (.c (.int .i64 0)))⟩ :: []
abbrev q55b10 : RQ := (.seq (.reg q55b9) .ret)
abbrev q55b11 : RQ := (.seq (.reg q55b8) q55b10)
abbrev q55b12 : RQ := (.seq (.reg q55b6) q55b11)
abbrev q55b13 : RQ := (.seq (.reg q55b4) q55b12)
abbrev q55g1 : List RP := ⟨(some 4), none, false, (.eqi true (.t 3))⟩ :: []
abbrev q55g2 : List RP := ⟨(some 3), none, false, (.mv (.t 1))⟩ :: q55g1
abbrev q55g3 : List RP := ⟨none, none, false, (.st 1 (.t 0) (.t 6))⟩ :: []
abbrev q55g4 : List RP := ⟨(some 6), none, false, (.tas 25 (.t 5))⟩ :: q55g3
abbrev q55g5 : List RP := ⟨(some 5), none, false, (.mv (.t 1))⟩ :: q55g4
abbrev q55g6 : RQ := (.reg q55g5)
abbrev q55g7 : RQ := (.cond (.t 4) q55g6 .skip)
def q55A : List RP := [⟨(some 1), none, false, (.box (.t 0))⟩, ⟨(some 2), none, false, (.alloc [(.int .i64 0)])⟩]
abbrev q55B : RQ := (.seq (.reg q55b2) q55b13)
abbrev q55G : RQ := (.seq (.reg q55g2) q55g7)
theorem df55 : DForm prog 55 q55A q55B q55G [(.c 2 false 1)] 75 [(.t 2)] 3 2 1 f55 f75 (dI0 f55.body) (dI1 f55.body) (dI0 f75.body) (dA f55.body) (dM f55.body) (dD f55.body) ((dA f75.body).getD 0 default) ((dA f75.body).getD 1 default)
    (dB f55.body) (dT f75.body) (mkArgs (dM f55.body).op) (callTys (dD f55.body).op) (callTys ((dA f75.body).getD 0 default).op) where
  hf := by kernel_rfl
  hb := by kernel_rfl
  hname := by rfl
  h0 := by kernel_rfl
  hB := by kernel_rfl
  hres := by kernel_rfl
  hom := by kernel_rfl
  hmg := by kernel_rfl
  hmd := by kernel_rfl
  htd := by decide
  hcaps := by kernel_rfl
  hod := by kernel_rfl
  hdg := by kernel_rfl
  hdd := by kernel_rfl
  hg := by kernel_rfl
  hgb := by kernel_rfl
  hgn := by rfl
  hG := by kernel_rfl
  hgr := by kernel_rfl
  hrc := by kernel_rfl
  hrg := by kernel_rfl
  hrd := by kernel_rfl
  ht1 := by decide
  has := by kernel_rfl
  hag := by kernel_rfl
  had := by kernel_rfl
  ht2 := by decide
  hcl := by decide
theorem nt55 : f55.ntmps = 12 := rfl

theorem mixed : prog.follows .mixedOrders = true := by kernel_rfl
end Go.Proofs.Ytffiicopifmmfaa
