/-
  The looked-up code of functions of the program. Facts of the program alone, no condition.
-/
import Derived.Test.YtffiicopifmmfaaAiX
import Derived.Test.YtffiicopifmmfaaProg
import Derived.Tactics
namespace Go.Proofs.Ytffiicopifmmfaa
set_option linter.unusedSimpArgs false
set_option linter.unusedVariables false
set_option linter.unnecessarySimpa false
set_option linter.unusedSectionVars false
open Go.Proofs.Try
open Go.Proofs.Ytffiicopifmmfaa.Ai

abbrev q10_1 : List RP := ⟨(some 4), none, false, (.mv (.c (.bool false)))⟩ :: []
abbrev q10_2 : List RP := ⟨(some 2), none, false, (.box (.t 0))⟩ :: q10_1
abbrev q10_3 : List RP := ⟨(some 5), none, false, (.mv (.t 15))⟩ :: []
abbrev q10_4 : List RP := ⟨(some 15), none, false, (.cal 17 [])⟩ :: q10_3
abbrev q10_5 : List RP := ⟨(some 23), none, false, (.pick (.t 19) (.c (.bool true)) (.t 22))⟩ :: []
abbrev q10_6 : List RP := ⟨(some 22), (some (19, false)), false, (.bin .gtr (.t 21) (.c (.int .i64 300)))⟩ :: q10_5
abbrev q10_7 : List RP := ⟨(some 21), (some (19, false)), false, (.len (.t 20))⟩ :: q10_6
abbrev q10_8 : List RP := ⟨(some 20), (some (19, false)), false, (.mv (.t 1))⟩ :: q10_7
abbrev q10_9 : List RP := ⟨(some 19), none, false, (.mv (.t 18))⟩ :: q10_8
abbrev q10_10 : List RP := ⟨(some 18), none, false, (.not (.t 17))⟩ :: q10_9
abbrev q10_11 : List RP := ⟨(some 17), none, false, (.cal 42 [(.t 16)])⟩ :: q10_10
abbrev q10_12 : List RP := ⟨(some 16), none, true, (.ld true 8 (.t 2))⟩ :: q10_11
abbrev q10_13 : List RP := ⟨(some 4), none, false, (.mv (.t 24))⟩ :: []
abbrev q10_14 : List RP := ⟨(some 24), none, false, (.mv (.t 5))⟩ :: q10_13
abbrev q10_15 : RQ := (.seq (.reg q10_14) .ret)
abbrev q10_16 : RQ := (.cond (.t 23) q10_15 .skip)
abbrev q10_17 : List RP := ⟨none, none, false, (.st 4 (.t 6) (.t 25))⟩ :: []
abbrev q10_18 : List RP := ⟨(some 6), none, false, (.alloc [.nils, .nils, (.int .u64 0), (.int .i64 0)])⟩ :: q10_17
abbrev q10_19 : List RP := ⟨(some 25), none, false, (.build [.nils, .nils, (.int .u64 0), (.int .i64 0)] [])⟩ :: q10_18
abbrev q10_20 : List RP := ⟨(some 7), none, false, (.mv (.c .nils))⟩ :: []
abbrev q10_21 : List RP := ⟨(some 9), none, false, (.mv (.c (.int .i64 0)))⟩ :: []
abbrev q10_22 : List RP := ⟨(some 8), none, false, (.mv (.c (.int .i64 1)))⟩ :: q10_21
abbrev q10_23 : List RP := ⟨(some 10), none, false, (.mv (.c (.int .i64 0)))⟩ :: []
abbrev q10_24 : List RP := ⟨(some 29), none, false, (.bin .lss (.t 26) (.t 28))⟩ :: []
abbrev q10_25 : List RP := ⟨(some 28), none, false, (.len (.t 27))⟩ :: q10_24
abbrev q10_26 : List RP := ⟨(some 27), none, false, (.mv (.t 1))⟩ :: q10_25
abbrev q10_27 : List RP := ⟨(some 26), none, false, (.mv (.t 10))⟩ :: q10_26
abbrev q10_28 : RQ := (.exit 0)
abbrev q10_29 : RQ := (.cond (.t 29) .skip q10_28)
abbrev q10_30 : List (Bool × RP) := (false, ⟨(some 11), none, false, (.alloc [.nils, .nils, (.int .u64 0), (.int .i64 0), (.int .i64 0), (.int .i64 0), (.int .i64 0), (.int .i64 0), (.int .u8 0), (.int .u64 0), (.int .u64 0), (.int .i64 0), (.int .i64 0), (.int .i64 0), (.int .i64 0), (.int .i64 0), (.int .i64 0), (.int .i64 0)])⟩) :: []
abbrev q10_31 : List (Bool × RP) := (false, ⟨(some 38), none, false, (.cal 24 [(.t 32), (.t 33), (.t 37)])⟩) :: q10_30
abbrev q10_32 : List (Bool × RP) := (false, ⟨(some 37), none, true, (.ld true 5 (.t 36))⟩) :: q10_31
abbrev q10_33 : List (Bool × RP) := (false, ⟨(some 36), none, false, (.ias 5 (.t 34) (.t 35))⟩) :: q10_32
abbrev q10_34 : List (Bool × RP) := (false, ⟨(some 35), none, false, (.mv (.t 10))⟩) :: q10_33
abbrev q10_35 : List (Bool × RP) := (false, ⟨(some 34), none, false, (.mv (.t 1))⟩) :: q10_34
abbrev q10_36 : List (Bool × RP) := (false, ⟨(some 33), none, true, (.ld true 4 (.t 6))⟩) :: q10_35
abbrev q10_37 : List (Bool × RP) := (false, ⟨(some 32), none, true, (.ld true 8 (.t 2))⟩) :: q10_36
abbrev q10_38 : List RP := ⟨none, none, false, (.st 18 (.t 11) (.t 38))⟩ :: []
abbrev q10_39 : List RP := ⟨(some 49), none, false, (.pick (.t 42) (.c (.bool true)) (.t 48))⟩ :: []
abbrev q10_40 : List RP := ⟨(some 48), (some (42, false)), false, (.not (.t 47))⟩ :: q10_39
abbrev q10_41 : List RP := ⟨(some 47), (some (42, false)), false, (.cal 26 [(.t 46)])⟩ :: q10_40
abbrev q10_42 : List RP := ⟨(some 46), (some (42, false)), true, (.ld true 5 (.t 45))⟩ :: q10_41
abbrev q10_43 : List RP := ⟨(some 45), (some (42, false)), false, (.ias 5 (.t 43) (.t 44))⟩ :: q10_42
abbrev q10_44 : List RP := ⟨(some 44), (some (42, false)), false, (.mv (.t 10))⟩ :: q10_43
abbrev q10_45 : List RP := ⟨(some 43), (some (42, false)), false, (.mv (.t 1))⟩ :: q10_44
abbrev q10_46 : List RP := ⟨(some 42), none, false, (.mv (.t 41))⟩ :: q10_45
abbrev q10_47 : List RP := ⟨(some 41), none, false, (.bin .neq (.t 40) (.c (.int .i64 0)))⟩ :: q10_46
abbrev q10_48 : List RP := ⟨(some 40), none, false, (.ld false 1 (.t 39))⟩ :: q10_47
abbrev q10_49 : List RP := ⟨(some 39), none, false, (.fa 17 (.t 11))⟩ :: q10_48
abbrev q10_50 : RQ := (.exit 1)
abbrev q10_51 : RQ := (.cond (.t 49) q10_50 .skip)
abbrev q10_52 : List RP := ⟨none, none, false, (.st 4 (.t 6) (.t 51))⟩ :: []
abbrev q10_53 : List RP := ⟨(some 51), none, false, (.ld true 4 (.t 50))⟩ :: q10_52
abbrev q10_54 : List RP := ⟨(some 50), none, false, (.fa 0 (.t 11))⟩ :: q10_53
abbrev q10_55 : List RP := ⟨(some 57), none, false, (.bin .rem (.t 56) (.c (.int .u8 7)))⟩ :: []
abbrev q10_56 : List RP := ⟨(some 56), none, false, (.ld false 1 (.t 55))⟩ :: q10_55
abbrev q10_57 : List RP := ⟨(some 55), none, false, (.fa 0 (.t 54))⟩ :: q10_56
abbrev q10_58 : List RP := ⟨(some 54), none, false, (.ias 5 (.t 52) (.t 53))⟩ :: q10_57
abbrev q10_59 : List RP := ⟨(some 53), none, false, (.mv (.t 10))⟩ :: q10_58
abbrev q10_60 : List RP := ⟨(some 52), none, false, (.mv (.t 1))⟩ :: q10_59
abbrev q10_61 : List RP := ⟨(some 58), none, false, (.mv (.t 59))⟩ :: []
abbrev q10_62 : List RP := ⟨(some 59), none, false, (.bin .eql (.t 57) (.c (.int .u8 0)))⟩ :: q10_61
abbrev q10_63 : List RP := ⟨(some 63), none, false, (.bin .neq (.t 61) (.t 62))⟩ :: []
abbrev q10_64 : List RP := ⟨(some 62), none, false, (.mv (.t 8))⟩ :: q10_63
abbrev q10_65 : List RP := ⟨(some 61), none, false, (.ld false 1 (.t 60))⟩ :: q10_64
abbrev q10_66 : List RP := ⟨(some 60), none, false, (.fa 4 (.t 11))⟩ :: q10_65
abbrev q10_67 : List RP := ⟨(some 4), none, false, (.mv (.c (.bool false)))⟩ :: []
abbrev q10_68 : RQ := (.seq (.reg q10_67) .ret)
abbrev q10_69 : RQ := (.cond (.t 63) q10_68 .skip)
abbrev q10_70 : List RP := ⟨(some 7), none, false, (.mv (.t 67))⟩ :: []
abbrev q10_71 : List RP := ⟨(some 67), none, false, (.app 1 8 [(.int .i64 0)] (.t 64) (.t 66))⟩ :: q10_70
abbrev q10_72 : List RP := ⟨(some 66), none, true, (.bslice 1 1 [(.int .i64 0)] [(0, (.t 65))])⟩ :: q10_71
abbrev q10_73 : List RP := ⟨(some 65), none, false, (.mv (.t 8))⟩ :: q10_72
abbrev q10_74 : List RP := ⟨(some 64), none, false, (.mv (.t 7))⟩ :: q10_73
abbrev q10_75 : List RP := ⟨(some 8), none, false, (.mv (.t 69))⟩ :: []
abbrev q10_76 : List RP := ⟨(some 69), none, false, (.bin .add (.t 68) (.c (.int .i64 1)))⟩ :: q10_75
abbrev q10_77 : List RP := ⟨(some 68), none, false, (.mv (.t 8))⟩ :: q10_76
abbrev q10_78 : RQ := (.reg q10_77)
abbrev q10_79 : RQ := (.seq (.reg q10_74) q10_78)
abbrev q10_80 : RQ := (.seq (.seq (.reg q10_66) q10_69) q10_79)
abbrev q10_81 : List RP := ⟨(some 70), none, false, (.mv (.t 71))⟩ :: []
abbrev q10_82 : List RP := ⟨(some 71), none, false, (.bin .eql (.t 57) (.c (.int .u8 2)))⟩ :: q10_81
abbrev q10_83 : List (Bool × RP) := (false, ⟨(some 88), none, false, (.pick (.t 83) (.c (.bool true)) (.t 87))⟩) :: []
abbrev q10_84 : List (Bool × RP) := (false, ⟨(some 87), (some (83, false)), false, (.bin .leq (.t 85) (.t 86))⟩) :: q10_83
abbrev q10_85 : List (Bool × RP) := (false, ⟨(some 86), (some (83, false)), false, (.mv (.t 9))⟩) :: q10_84
abbrev q10_86 : List (Bool × RP) := (false, ⟨(some 85), (some (83, false)), false, (.ld false 1 (.t 84))⟩) :: q10_85
abbrev q10_87 : List (Bool × RP) := (false, ⟨(some 84), (some (83, false)), false, (.fa 4 (.t 11))⟩) :: q10_86
abbrev q10_88 : List (Bool × RP) := (false, ⟨(some 83), none, false, (.mv (.t 82))⟩) :: q10_87
abbrev q10_89 : List (Bool × RP) := (false, ⟨(some 82), none, false, (.pick (.t 75) (.c (.bool true)) (.t 81))⟩) :: q10_88
abbrev q10_90 : List (Bool × RP) := (false, ⟨(some 81), (some (75, false)), false, (.bin .neq (.t 77) (.t 80))⟩) :: q10_89
abbrev q10_91 : List (Bool × RP) := (false, ⟨(some 80), (some (75, false)), false, (.ld false 1 (.t 79))⟩) :: q10_90
abbrev q10_92 : List (Bool × RP) := (false, ⟨(some 79), (some (75, false)), false, (.ias 1 (.t 78) (.c (.int .i64 0)))⟩) :: q10_91
abbrev q10_93 : List (Bool × RP) := (false, ⟨(some 78), (some (75, false)), false, (.mv (.t 7))⟩) :: q10_92
abbrev q10_94 : List (Bool × RP) := (false, ⟨(some 77), (some (75, false)), false, (.ld false 1 (.t 76))⟩) :: q10_93
abbrev q10_95 : List (Bool × RP) := (false, ⟨(some 76), (some (75, false)), false, (.fa 4 (.t 11))⟩) :: q10_94
abbrev q10_96 : List (Bool × RP) := (false, ⟨(some 75), none, false, (.mv (.t 74))⟩) :: q10_95
abbrev q10_97 : List (Bool × RP) := (false, ⟨(some 74), none, false, (.bin .eql (.t 73) (.c (.int .i64 0)))⟩) :: q10_96
abbrev q10_98 : List (Bool × RP) := (false, ⟨(some 73), none, false, (.len (.t 72))⟩) :: q10_97
abbrev q10_99 : List (Bool × RP) := (false, ⟨(some 72), none, false, (.mv (.t 7))⟩) :: q10_98
abbrev q10_100 : List RP := ⟨(some 4), none, false, (.mv (.c (.bool false)))⟩ :: []
abbrev q10_101 : RQ := (.seq (.reg q10_100) .ret)
abbrev q10_102 : RQ := (.cond (.t 88) q10_101 .skip)
abbrev q10_103 : List RP := ⟨(some 9), none, false, (.mv (.t 90))⟩ :: []
abbrev q10_104 : List RP := ⟨(some 90), none, false, (.ld false 1 (.t 89))⟩ :: q10_103
abbrev q10_105 : List RP := ⟨(some 89), none, false, (.fa 4 (.t 11))⟩ :: q10_104
abbrev q10_106 : List RP := ⟨(some 7), none, false, (.mv (.t 92))⟩ :: []
abbrev q10_107 : List RP := ⟨(some 92), none, false, (.slc 1 (.t 91) (some (.c (.int .i64 1))) none)⟩ :: q10_106
abbrev q10_108 : List RP := ⟨(some 91), none, false, (.mv (.t 7))⟩ :: q10_107
abbrev q10_109 : RQ := (.reg q10_108)
abbrev q10_110 : RQ := (.seq (.reg q10_105) q10_109)
abbrev q10_111 : RQ := (.seq (.seq (.drw q10_99 []) q10_102) q10_110)
abbrev q10_112 : List RP := ⟨(some 93), none, false, (.mv (.t 94))⟩ :: []
abbrev q10_113 : List RP := ⟨(some 94), none, false, (.bin .eql (.t 57) (.c (.int .u8 1)))⟩ :: q10_112
abbrev q10_114 : List RP := ⟨(some 12), none, false, (.mv (.c .nils))⟩ :: []
abbrev q10_115 : List RP := ⟨(some 13), none, false, (.mv (.c (.int .i64 0)))⟩ :: []
abbrev q10_116 : List RP := ⟨(some 98), none, false, (.bin .lss (.t 95) (.t 97))⟩ :: []
abbrev q10_117 : List RP := ⟨(some 97), none, false, (.len (.t 96))⟩ :: q10_116
abbrev q10_118 : List RP := ⟨(some 96), none, false, (.mv (.t 7))⟩ :: q10_117
abbrev q10_119 : List RP := ⟨(some 95), none, false, (.mv (.t 13))⟩ :: q10_118
abbrev q10_120 : RQ := (.exit 3)
abbrev q10_121 : RQ := (.cond (.t 98) .skip q10_120)
abbrev q10_122 : List (Bool × RP) := (false, ⟨(some 110), none, false, (.bin .neq (.t 104) (.t 109))⟩) :: []
abbrev q10_123 : List (Bool × RP) := (false, ⟨(some 109), none, false, (.ld false 1 (.t 108))⟩) :: q10_122
abbrev q10_124 : List (Bool × RP) := (false, ⟨(some 108), none, false, (.fa 3 (.t 107))⟩) :: q10_123
abbrev q10_125 : List (Bool × RP) := (false, ⟨(some 107), none, false, (.ias 5 (.t 105) (.t 106))⟩) :: q10_124
abbrev q10_126 : List (Bool × RP) := (false, ⟨(some 106), none, false, (.mv (.t 10))⟩) :: q10_125
abbrev q10_127 : List (Bool × RP) := (false, ⟨(some 105), none, false, (.mv (.t 1))⟩) :: q10_126
abbrev q10_128 : List (Bool × RP) := (false, ⟨(some 104), none, false, (.ld false 1 (.t 103))⟩) :: q10_127
abbrev q10_129 : List (Bool × RP) := (false, ⟨(some 103), none, false, (.ias 1 (.t 101) (.t 102))⟩) :: q10_128
abbrev q10_130 : List (Bool × RP) := (false, ⟨(some 102), none, false, (.mv (.t 13))⟩) :: q10_129
abbrev q10_131 : List (Bool × RP) := (false, ⟨(some 101), none, false, (.mv (.t 7))⟩) :: q10_130
abbrev q10_132 : List RP := ⟨(some 12), none, false, (.mv (.t 117))⟩ :: []
abbrev q10_133 : List RP := ⟨(some 117), none, false, (.app 1 8 [(.int .i64 0)] (.t 111) (.t 116))⟩ :: q10_132
abbrev q10_134 : List RP := ⟨(some 116), none, true, (.bslice 1 1 [(.int .i64 0)] [(0, (.t 115))])⟩ :: q10_133
abbrev q10_135 : List RP := ⟨(some 115), none, false, (.ld false 1 (.t 114))⟩ :: q10_134
abbrev q10_136 : List RP := ⟨(some 114), none, false, (.ias 1 (.t 112) (.t 113))⟩ :: q10_135
abbrev q10_137 : List RP := ⟨(some 113), none, false, (.mv (.t 13))⟩ :: q10_136
abbrev q10_138 : List RP := ⟨(some 112), none, false, (.mv (.t 7))⟩ :: q10_137
abbrev q10_139 : List RP := ⟨(some 111), none, false, (.mv (.t 12))⟩ :: q10_138
abbrev q10_140 : RQ := (.reg q10_139)
abbrev q10_141 : RQ := (.cond (.t 110) q10_140 .skip)
abbrev q10_142 : List RP := ⟨(some 13), none, false, (.mv (.t 100))⟩ :: []
abbrev q10_143 : List RP := ⟨(some 100), none, false, (.bin .add (.t 99) (.c (.int .i64 1)))⟩ :: q10_142
abbrev q10_144 : List RP := ⟨(some 99), none, false, (.mv (.t 13))⟩ :: q10_143
abbrev q10_145 : RQ := (.reg q10_144)
abbrev q10_146 : RQ := (.seq (.block 4 (.seq (.drw q10_131 []) q10_141)) q10_145)
abbrev q10_147 : RQ := (.seq (.seq (.reg q10_119) q10_121) q10_146)
abbrev q10_148 : RQ := (.block 3 (.loop q10_147))
abbrev q10_149 : List RP := ⟨(some 123), none, false, (.bin .neq (.t 119) (.t 122))⟩ :: []
abbrev q10_150 : List RP := ⟨(some 122), none, false, (.bin .sub (.t 121) (.c (.int .i64 1)))⟩ :: q10_149
abbrev q10_151 : List RP := ⟨(some 121), none, false, (.len (.t 120))⟩ :: q10_150
abbrev q10_152 : List RP := ⟨(some 120), none, false, (.mv (.t 7))⟩ :: q10_151
abbrev q10_153 : List RP := ⟨(some 119), none, false, (.len (.t 118))⟩ :: q10_152
abbrev q10_154 : List RP := ⟨(some 118), none, false, (.mv (.t 12))⟩ :: q10_153
abbrev q10_155 : List RP := ⟨(some 4), none, false, (.mv (.c (.bool false)))⟩ :: []
abbrev q10_156 : RQ := (.seq (.reg q10_155) .ret)
abbrev q10_157 : RQ := (.cond (.t 123) q10_156 .skip)
abbrev q10_158 : List RP := ⟨(some 7), none, false, (.mv (.t 124))⟩ :: []
abbrev q10_159 : List RP := ⟨(some 124), none, false, (.mv (.t 12))⟩ :: q10_158
abbrev q10_160 : RQ := (.reg q10_159)
abbrev q10_161 : RQ := (.seq (.seq (.reg q10_154) q10_157) q10_160)
abbrev q10_162 : RQ := (.seq (.seq (.reg q10_115) q10_148) q10_161)
abbrev q10_163 : RQ := (.seq (.reg q10_114) q10_162)
abbrev q10_164 : RQ := (.cond (.t 93) q10_163 .skip)
abbrev q10_165 : RQ := (.seq (.reg q10_113) q10_164)
abbrev q10_166 : RQ := (.cond (.t 70) q10_111 q10_165)
abbrev q10_167 : RQ := (.seq (.reg q10_82) q10_166)
abbrev q10_168 : RQ := (.cond (.t 58) q10_80 q10_167)
abbrev q10_169 : RQ := (.block 2 (.seq (.reg q10_62) q10_168))
abbrev q10_170 : List RP := ⟨(some 151), none, false, (.pick (.t 144) (.c (.bool true)) (.t 150))⟩ :: []
abbrev q10_171 : List RP := ⟨(some 150), (some (144, false)), false, (.bin .neq (.t 147) (.t 149))⟩ :: q10_170
abbrev q10_172 : List RP := ⟨(some 149), (some (144, false)), false, (.len (.t 148))⟩ :: q10_171
abbrev q10_173 : List RP := ⟨(some 148), (some (144, false)), false, (.mv (.t 7))⟩ :: q10_172
abbrev q10_174 : List RP := ⟨(some 147), (some (144, false)), false, (.len (.t 146))⟩ :: q10_173
abbrev q10_175 : List RP := ⟨(some 146), (some (144, false)), false, (.ld false 1 (.t 145))⟩ :: q10_174
abbrev q10_176 : List RP := ⟨(some 145), (some (144, false)), false, (.fa 1 (.t 6))⟩ :: q10_175
abbrev q10_177 : List RP := ⟨(some 144), none, false, (.mv (.t 143))⟩ :: q10_176
abbrev q10_178 : List RP := ⟨(some 143), none, false, (.pick (.t 137) (.c (.bool true)) (.t 142))⟩ :: q10_177
abbrev q10_179 : List RP := ⟨(some 142), (some (137, false)), false, (.bin .gtr (.t 139) (.t 141))⟩ :: q10_178
abbrev q10_180 : List RP := ⟨(some 141), (some (137, false)), false, (.ld false 1 (.t 140))⟩ :: q10_179
abbrev q10_181 : List RP := ⟨(some 140), (some (137, false)), false, (.fa 5 (.t 2))⟩ :: q10_180
abbrev q10_182 : List RP := ⟨(some 139), (some (137, false)), false, (.len (.t 138))⟩ :: q10_181
abbrev q10_183 : List RP := ⟨(some 138), (some (137, false)), false, (.mv (.t 7))⟩ :: q10_182
abbrev q10_184 : List RP := ⟨(some 137), none, false, (.mv (.t 136))⟩ :: q10_183
abbrev q10_185 : List RP := ⟨(some 136), none, false, (.pick (.t 129) (.c (.bool true)) (.t 135))⟩ :: q10_184
abbrev q10_186 : List RP := ⟨(some 135), (some (129, false)), false, (.bin .neq (.t 132) (.t 134))⟩ :: q10_185
abbrev q10_187 : List RP := ⟨(some 134), (some (129, false)), false, (.bin .sub (.t 133) (.c (.int .i64 1)))⟩ :: q10_186
abbrev q10_188 : List RP := ⟨(some 133), (some (129, false)), false, (.mv (.t 8))⟩ :: q10_187
abbrev q10_189 : List RP := ⟨(some 132), (some (129, false)), false, (.len (.t 131))⟩ :: q10_188
abbrev q10_190 : List RP := ⟨(some 131), (some (129, false)), false, (.ld false 1 (.t 130))⟩ :: q10_189
abbrev q10_191 : List RP := ⟨(some 130), (some (129, false)), false, (.fa 0 (.t 6))⟩ :: q10_190
abbrev q10_192 : List RP := ⟨(some 129), none, false, (.mv (.t 128))⟩ :: q10_191
abbrev q10_193 : List RP := ⟨(some 128), none, false, (.bin .neq (.t 127) (.c (.int .i64 0)))⟩ :: q10_192
abbrev q10_194 : List RP := ⟨(some 127), none, false, (.cal 29 [(.t 125), (.t 126)])⟩ :: q10_193
abbrev q10_195 : List RP := ⟨(some 126), none, true, (.ld true 4 (.t 6))⟩ :: q10_194
abbrev q10_196 : List RP := ⟨(some 125), none, true, (.ld true 8 (.t 2))⟩ :: q10_195
abbrev q10_197 : List RP := ⟨(some 4), none, false, (.mv (.c (.bool false)))⟩ :: []
abbrev q10_198 : RQ := (.seq (.reg q10_197) .ret)
abbrev q10_199 : RQ := (.cond (.t 151) q10_198 .skip)
abbrev q10_200 : List RP := ⟨(some 14), none, false, (.mv (.c (.int .i64 0)))⟩ :: []
abbrev q10_201 : List RP := ⟨(some 155), none, false, (.bin .lss (.t 152) (.t 154))⟩ :: []
abbrev q10_202 : List RP := ⟨(some 154), none, false, (.len (.t 153))⟩ :: q10_201
abbrev q10_203 : List RP := ⟨(some 153), none, false, (.mv (.t 7))⟩ :: q10_202
abbrev q10_204 : List RP := ⟨(some 152), none, false, (.mv (.t 14))⟩ :: q10_203
abbrev q10_205 : RQ := (.exit 5)
abbrev q10_206 : RQ := (.cond (.t 155) .skip q10_205)
abbrev q10_207 : List (Bool × RP) := (false, ⟨(some 167), none, false, (.bin .neq (.t 162) (.t 166))⟩) :: []
abbrev q10_208 : List (Bool × RP) := (false, ⟨(some 166), none, false, (.ld false 1 (.t 165))⟩) :: q10_207
abbrev q10_209 : List (Bool × RP) := (false, ⟨(some 165), none, false, (.ias 1 (.t 163) (.t 164))⟩) :: q10_208
abbrev q10_210 : List (Bool × RP) := (false, ⟨(some 164), none, false, (.mv (.t 14))⟩) :: q10_209
abbrev q10_211 : List (Bool × RP) := (false, ⟨(some 163), none, false, (.mv (.t 7))⟩) :: q10_210
abbrev q10_212 : List (Bool × RP) := (false, ⟨(some 162), none, false, (.ld false 1 (.t 161))⟩) :: q10_211
abbrev q10_213 : List (Bool × RP) := (false, ⟨(some 161), none, false, (.ias 1 (.t 159) (.t 160))⟩) :: q10_212
abbrev q10_214 : List (Bool × RP) := (false, ⟨(some 160), none, false, (.mv (.t 14))⟩) :: q10_213
abbrev q10_215 : List (Bool × RP) := (false, ⟨(some 159), none, false, (.ld false 1 (.t 158))⟩) :: q10_214
abbrev q10_216 : List (Bool × RP) := (false, ⟨(some 158), none, false, (.fa 1 (.t 6))⟩) :: q10_215
abbrev q10_217 : List RP := ⟨(some 4), none, false, (.mv (.c (.bool false)))⟩ :: []
abbrev q10_218 : RQ := (.seq (.reg q10_217) .ret)
abbrev q10_219 : RQ := (.cond (.t 167) q10_218 .skip)
abbrev q10_220 : List RP := ⟨(some 14), none, false, (.mv (.t 157))⟩ :: []
abbrev q10_221 : List RP := ⟨(some 157), none, false, (.bin .add (.t 156) (.c (.int .i64 1)))⟩ :: q10_220
abbrev q10_222 : List RP := ⟨(some 156), none, false, (.mv (.t 14))⟩ :: q10_221
abbrev q10_223 : RQ := (.reg q10_222)
abbrev q10_224 : RQ := (.seq (.block 6 (.seq (.drw q10_216 []) q10_219)) q10_223)
abbrev q10_225 : RQ := (.seq (.seq (.reg q10_204) q10_206) q10_224)
abbrev q10_226 : RQ := (.block 5 (.loop q10_225))
abbrev q10_227 : RQ := (.seq (.reg q10_200) q10_226)
abbrev q10_228 : RQ := (.seq (.seq (.reg q10_196) q10_199) q10_227)
abbrev q10_229 : RQ := (.seq (.seq (.reg q10_60) q10_169) q10_228)
abbrev q10_230 : RQ := (.seq (.reg q10_54) q10_229)
abbrev q10_231 : RQ := (.seq (.seq (.reg q10_49) q10_51) q10_230)
abbrev q10_232 : List RP := ⟨(some 10), none, false, (.mv (.t 31))⟩ :: []
abbrev q10_233 : List RP := ⟨(some 31), none, false, (.bin .add (.t 30) (.c (.int .i64 1)))⟩ :: q10_232
abbrev q10_234 : List RP := ⟨(some 30), none, false, (.mv (.t 10))⟩ :: q10_233
abbrev q10_235 : RQ := (.reg q10_234)
abbrev q10_236 : RQ := (.seq (.block 1 (.seq (.drw q10_37 q10_38) q10_231)) q10_235)
abbrev q10_237 : RQ := (.seq (.seq (.reg q10_27) q10_29) q10_236)
abbrev q10_238 : RQ := (.block 0 (.loop q10_237))
abbrev q10_239 : List RP := ⟨(some 4), none, false, (.mv (.t 168))⟩ :: []
abbrev q10_240 : List RP := ⟨(some 168), none, false, (.mv (.t 5))⟩ :: q10_239
abbrev q10_241 : RQ := (.seq (.reg q10_240) .ret)
abbrev q10_242 : RQ := (.seq (.seq (.reg q10_23) q10_238) q10_241)
abbrev q10_243 : RQ := (.seq (.reg q10_22) q10_242)
abbrev q10_244 : RQ := (.seq (.reg q10_20) q10_243)
abbrev q10_245 : RQ := (.seq (.reg q10_19) q10_244)
abbrev q10_246 : RQ := (.seq (.seq (.reg q10_12) q10_16) q10_245)
abbrev q10_247 : RQ := (.seq (.reg q10_4) q10_246)
abbrev q10 : RQ := (.seq (.reg q10_2) q10_247)
theorem l10 : ∃ c, f10.body = some c ∧ liteC prog f10.ntmps c = some q10 := ⟨_, rfl, by kernel_rfl⟩
theorem e10 : prog.funcs[10]? = some f10 := by kernel_rfl
theorem r10 : mapO (resOf prog) f10.results.toList = some [(.t 4)] := by kernel_rfl
theorem n10 : f10.ntmps = 169 := rfl
def T10 : TE := .fn q10 [(.t 4)] 169
theorem te10 : TEOK prog 10 T10 := te_fn e10 l10 rfl r10 n10

abbrev q16_1 : List RP := ⟨(some 9), none, false, (.mv (.c (.int .i64 0)))⟩ :: []
abbrev q16_2 : List RP := ⟨(some 8), none, false, (.alloc [(.int .i64 0), (.int .i64 0), (.int .i64 0), (.int .u8 0), (.int .u64 0), (.int .u64 0)])⟩ :: q16_1
abbrev q16_3 : List RP := ⟨none, none, false, (.st 6 (.t 10) (.t 15))⟩ :: []
abbrev q16_4 : List RP := ⟨(some 10), none, false, (.alloc [(.int .i64 0), (.int .i64 0), (.int .i64 0), (.int .u8 0), (.int .u64 0), (.int .u64 0)])⟩ :: q16_3
abbrev q16_5 : List RP := ⟨(some 15), none, false, (.build [(.int .i64 0), (.int .i64 0), (.int .i64 0), (.int .u8 0), (.int .u64 0), (.int .u64 0)] [(0, 1, (.t 11)), (1, 1, (.t 12)), (2, 1, (.t 13)), (3, 1, (.c (.int .u8 1))), (4, 1, (.t 14))])⟩ :: q16_4
abbrev q16_6 : List RP := ⟨(some 14), none, false, (.mv (.t 3))⟩ :: q16_5
abbrev q16_7 : List RP := ⟨(some 13), none, false, (.mv (.t 2))⟩ :: q16_6
abbrev q16_8 : List RP := ⟨(some 12), none, false, (.mv (.t 1))⟩ :: q16_7
abbrev q16_9 : List RP := ⟨(some 11), none, false, (.mv (.t 0))⟩ :: q16_8
abbrev q16_10 : List RP := ⟨(some 18), none, false, (.bin .neq (.t 17) (.c (.int .i64 0)))⟩ :: []
abbrev q16_11 : List RP := ⟨(some 17), none, false, (.cal 31 [(.t 16)])⟩ :: q16_10
abbrev q16_12 : List RP := ⟨(some 16), none, true, (.ld true 6 (.t 10))⟩ :: q16_11
abbrev q16_13 : List RP := ⟨(some 9), none, false, (.mv (.c (.int .i64 2)))⟩ :: []
abbrev q16_14 : List RP := ⟨none, none, false, (.st 6 (.t 8) (.t 19))⟩ :: q16_13
abbrev q16_15 : List RP := ⟨(some 19), none, false, (.build [(.int .i64 0), (.int .i64 0), (.int .i64 0), (.int .u8 0), (.int .u64 0), (.int .u64 0)] [])⟩ :: q16_14
abbrev q16_16 : RQ := (.seq (.reg q16_15) .ret)
abbrev q16_17 : RQ := (.cond (.t 18) q16_16 .skip)
abbrev q16_18 : List RP := ⟨(some 9), none, false, (.mv (.c (.int .i64 0)))⟩ :: []
abbrev q16_19 : List RP := ⟨none, none, false, (.st 6 (.t 8) (.t 20))⟩ :: q16_18
abbrev q16_20 : List RP := ⟨(some 20), none, false, (.ld true 6 (.t 10))⟩ :: q16_19
abbrev q16_21 : RQ := (.seq (.reg q16_20) .ret)
abbrev q16_22 : RQ := (.seq (.seq (.reg q16_12) q16_17) q16_21)
abbrev q16_23 : RQ := (.seq (.reg q16_9) q16_22)
abbrev q16 : RQ := (.seq (.reg q16_2) q16_23)
theorem l16 : ∃ c, f16.body = some c ∧ liteC prog f16.ntmps c = some q16 := ⟨_, rfl, by kernel_rfl⟩
theorem e16 : prog.funcs[16]? = some f16 := by kernel_rfl
theorem r16 : mapO (resOf prog) f16.results.toList = some [(.c 8 true 6), (.t 9)] := by kernel_rfl
theorem n16 : f16.ntmps = 21 := rfl
def T16 : TE := .fn q16 [(.c 8 true 6), (.t 9)] 21
theorem te16 : TEOK prog 16 T16 := te_fn e16 l16 rfl r16 n16

abbrev q17_1 : List RP := ⟨(some 0), none, false, (.mv (.c (.bool false)))⟩ :: []
abbrev q17_2 : List RP := ⟨(some 2), none, false, (.mv (.t 15))⟩ :: []
abbrev q17_3 : List RP := ⟨none, none, false, (.st 6 (.t 1) (.t 14))⟩ :: q17_2
abbrev q17_4 : List RP := ⟨(some 1), none, false, (.alloc [(.int .i64 0), (.int .i64 0), (.int .i64 0), (.int .u8 0), (.int .u64 0), (.int .u64 0)])⟩ :: q17_3
abbrev q17_5 : List RP := ⟨(some 15), none, false, (.ext (.t 12) 1)⟩ :: q17_4
abbrev q17_6 : List RP := ⟨(some 14), none, false, (.ext (.t 12) 0)⟩ :: q17_5
abbrev q17_7 : List RP := ⟨(some 12), none, false, (.mv (.t 13))⟩ :: q17_6
abbrev q17_8 : List RP := ⟨(some 13), none, false, (.cal 16 [(.c (.int .i64 1)), (.c (.int .i64 0)), (.c (.int .i64 2)), (.c (.int .u64 7))])⟩ :: q17_7
abbrev q17_9 : List RP := ⟨(some 4), none, false, (.mv (.t 20))⟩ :: []
abbrev q17_10 : List RP := ⟨none, none, false, (.st 6 (.t 3) (.t 19))⟩ :: q17_9
abbrev q17_11 : List RP := ⟨(some 3), none, false, (.alloc [(.int .i64 0), (.int .i64 0), (.int .i64 0), (.int .u8 0), (.int .u64 0), (.int .u64 0)])⟩ :: q17_10
abbrev q17_12 : List RP := ⟨(some 20), none, false, (.ext (.t 16) 1)⟩ :: q17_11
abbrev q17_13 : List RP := ⟨(some 19), none, false, (.ext (.t 16) 0)⟩ :: q17_12
abbrev q17_14 : List RP := ⟨(some 16), none, false, (.mv (.t 18))⟩ :: q17_13
abbrev q17_15 : List RP := ⟨(some 18), none, false, (.cal 18 [(.t 17), (.c (.int .u8 2)), (.c (.int .u64 0))])⟩ :: q17_14
abbrev q17_16 : List RP := ⟨(some 17), none, true, (.ld true 6 (.t 1))⟩ :: q17_15
abbrev q17_17 : List RP := ⟨(some 6), none, false, (.mv (.t 25))⟩ :: []
abbrev q17_18 : List RP := ⟨none, none, false, (.st 2 (.t 5) (.t 24))⟩ :: q17_17
abbrev q17_19 : List RP := ⟨(some 5), none, false, (.alloc [(.int .u64 0), (.int .i64 0)])⟩ :: q17_18
abbrev q17_20 : List RP := ⟨(some 25), none, false, (.ext (.t 21) 1)⟩ :: q17_19
abbrev q17_21 : List RP := ⟨(some 24), none, false, (.ext (.t 21) 0)⟩ :: q17_20
abbrev q17_22 : List RP := ⟨(some 21), none, false, (.mv (.t 23))⟩ :: q17_21
abbrev q17_23 : List RP := ⟨(some 23), none, false, (.cal 19 [(.t 22), (.c (.int .i64 8)), (.c (.int .i64 3)), (.c (.int .u64 7))])⟩ :: q17_22
abbrev q17_24 : List RP := ⟨(some 22), none, true, (.build [(.int .u64 0), (.int .i64 0)] [(1, 1, (.c (.int .i64 2)))])⟩ :: q17_23
abbrev q17_25 : List RP := ⟨(some 65), none, false, (.pick (.t 61) (.c (.bool true)) (.t 64))⟩ :: []
abbrev q17_26 : List RP := ⟨(some 64), (some (61, false)), false, (.bin .neq (.t 63) (.c (.int .i64 3)))⟩ :: q17_25
abbrev q17_27 : List RP := ⟨(some 63), (some (61, false)), false, (.ld false 1 (.t 62))⟩ :: q17_26
abbrev q17_28 : List RP := ⟨(some 62), (some (61, false)), false, (.fa 1 (.t 5))⟩ :: q17_27
abbrev q17_29 : List RP := ⟨(some 61), none, false, (.mv (.t 60))⟩ :: q17_28
abbrev q17_30 : List RP := ⟨(some 60), none, false, (.pick (.t 57) (.c (.bool true)) (.t 59))⟩ :: q17_29
abbrev q17_31 : List RP := ⟨(some 59), (some (57, false)), false, (.bin .neq (.t 58) (.c (.int .i64 0)))⟩ :: q17_30
abbrev q17_32 : List RP := ⟨(some 58), (some (57, false)), false, (.mv (.t 6))⟩ :: q17_31
abbrev q17_33 : List RP := ⟨(some 57), none, false, (.mv (.t 56))⟩ :: q17_32
abbrev q17_34 : List RP := ⟨(some 56), none, false, (.pick (.t 52) (.c (.bool true)) (.t 55))⟩ :: q17_33
abbrev q17_35 : List RP := ⟨(some 55), (some (52, false)), false, (.bin .neq (.t 54) (.c (.int .u8 2)))⟩ :: q17_34
abbrev q17_36 : List RP := ⟨(some 54), (some (52, false)), false, (.ld false 1 (.t 53))⟩ :: q17_35
abbrev q17_37 : List RP := ⟨(some 53), (some (52, false)), false, (.fa 3 (.t 3))⟩ :: q17_36
abbrev q17_38 : List RP := ⟨(some 52), none, false, (.mv (.t 51))⟩ :: q17_37
abbrev q17_39 : List RP := ⟨(some 51), none, false, (.pick (.t 48) (.c (.bool true)) (.t 50))⟩ :: q17_38
abbrev q17_40 : List RP := ⟨(some 50), (some (48, false)), false, (.bin .neq (.t 49) (.c (.int .i64 0)))⟩ :: q17_39
abbrev q17_41 : List RP := ⟨(some 49), (some (48, false)), false, (.mv (.t 4))⟩ :: q17_40
abbrev q17_42 : List RP := ⟨(some 48), none, false, (.mv (.t 47))⟩ :: q17_41
abbrev q17_43 : List RP := ⟨(some 47), none, false, (.pick (.t 43) (.c (.bool true)) (.t 46))⟩ :: q17_42
abbrev q17_44 : List RP := ⟨(some 46), (some (43, false)), false, (.bin .neq (.t 45) (.c (.int .u64 7)))⟩ :: q17_43
abbrev q17_45 : List RP := ⟨(some 45), (some (43, false)), false, (.ld false 1 (.t 44))⟩ :: q17_44
abbrev q17_46 : List RP := ⟨(some 44), (some (43, false)), false, (.fa 4 (.t 1))⟩ :: q17_45
abbrev q17_47 : List RP := ⟨(some 43), none, false, (.mv (.t 42))⟩ :: q17_46
abbrev q17_48 : List RP := ⟨(some 42), none, false, (.pick (.t 38) (.c (.bool true)) (.t 41))⟩ :: q17_47
abbrev q17_49 : List RP := ⟨(some 41), (some (38, false)), false, (.bin .neq (.t 40) (.c (.int .u8 1)))⟩ :: q17_48
abbrev q17_50 : List RP := ⟨(some 40), (some (38, false)), false, (.ld false 1 (.t 39))⟩ :: q17_49
abbrev q17_51 : List RP := ⟨(some 39), (some (38, false)), false, (.fa 3 (.t 1))⟩ :: q17_50
abbrev q17_52 : List RP := ⟨(some 38), none, false, (.mv (.t 37))⟩ :: q17_51
abbrev q17_53 : List RP := ⟨(some 37), none, false, (.pick (.t 33) (.c (.bool true)) (.t 36))⟩ :: q17_52
abbrev q17_54 : List RP := ⟨(some 36), (some (33, false)), false, (.bin .neq (.t 35) (.c (.int .i64 2)))⟩ :: q17_53
abbrev q17_55 : List RP := ⟨(some 35), (some (33, false)), false, (.ld false 1 (.t 34))⟩ :: q17_54
abbrev q17_56 : List RP := ⟨(some 34), (some (33, false)), false, (.fa 2 (.t 1))⟩ :: q17_55
abbrev q17_57 : List RP := ⟨(some 33), none, false, (.mv (.t 32))⟩ :: q17_56
abbrev q17_58 : List RP := ⟨(some 32), none, false, (.pick (.t 28) (.c (.bool true)) (.t 31))⟩ :: q17_57
abbrev q17_59 : List RP := ⟨(some 31), (some (28, false)), false, (.bin .neq (.t 30) (.c (.int .i64 1)))⟩ :: q17_58
abbrev q17_60 : List RP := ⟨(some 30), (some (28, false)), false, (.ld false 1 (.t 29))⟩ :: q17_59
abbrev q17_61 : List RP := ⟨(some 29), (some (28, false)), false, (.fa 0 (.t 1))⟩ :: q17_60
abbrev q17_62 : List RP := ⟨(some 28), none, false, (.mv (.t 27))⟩ :: q17_61
abbrev q17_63 : List RP := ⟨(some 27), none, false, (.bin .neq (.t 26) (.c (.int .i64 0)))⟩ :: q17_62
abbrev q17_64 : List RP := ⟨(some 26), none, false, (.mv (.t 2))⟩ :: q17_63
abbrev q17_65 : List RP := ⟨(some 0), none, false, (.mv (.c (.bool false)))⟩ :: []
abbrev q17_66 : RQ := (.seq (.reg q17_65) .ret)
abbrev q17_67 : RQ := (.cond (.t 65) q17_66 .skip)
abbrev q17_68 : List RP := ⟨(some 2), none, false, (.mv (.t 72))⟩ :: []
abbrev q17_69 : List RP := ⟨(some 8), none, false, (.mv (.t 71))⟩ :: q17_68
abbrev q17_70 : List RP := ⟨none, none, false, (.st 4 (.t 7) (.t 70))⟩ :: q17_69
abbrev q17_71 : List RP := ⟨(some 7), none, false, (.alloc [.nils, .nils, (.int .u64 0), (.int .i64 0)])⟩ :: q17_70
abbrev q17_72 : List RP := ⟨(some 72), none, false, (.ext (.t 66) 2)⟩ :: q17_71
abbrev q17_73 : List RP := ⟨(some 71), none, false, (.ext (.t 66) 1)⟩ :: q17_72
abbrev q17_74 : List RP := ⟨(some 70), none, false, (.ext (.t 66) 0)⟩ :: q17_73
abbrev q17_75 : List RP := ⟨(some 66), none, false, (.mv (.t 69))⟩ :: q17_74
abbrev q17_76 : List RP := ⟨(some 69), none, false, (.cal 28 [(.t 67), (.t 68), (.c (.int .i64 1)), (.c (.int .i64 0)), (.c (.int .u64 3))])⟩ :: q17_75
abbrev q17_77 : List RP := ⟨(some 68), none, true, (.build [.nils, .nils, (.int .u64 0), (.int .i64 0)] [])⟩ :: q17_76
abbrev q17_78 : List RP := ⟨(some 67), none, true, (.cal 25 [])⟩ :: q17_77
abbrev q17_79 : List RP := ⟨(some 96), none, false, (.pick (.t 91) (.c (.bool true)) (.t 95))⟩ :: []
abbrev q17_80 : List RP := ⟨(some 95), (some (91, false)), false, (.bin .neq (.t 94) (.c (.int .i64 1)))⟩ :: q17_79
abbrev q17_81 : List RP := ⟨(some 94), (some (91, false)), false, (.ld false 1 (.t 93))⟩ :: q17_80
abbrev q17_82 : List RP := ⟨(some 93), (some (91, false)), false, (.fa 1 (.t 92))⟩ :: q17_81
abbrev q17_83 : List RP := ⟨(some 92), (some (91, false)), false, (.fa 2 (.t 7))⟩ :: q17_82
abbrev q17_84 : List RP := ⟨(some 91), none, false, (.mv (.t 90))⟩ :: q17_83
abbrev q17_85 : List RP := ⟨(some 90), none, false, (.pick (.t 85) (.c (.bool true)) (.t 89))⟩ :: q17_84
abbrev q17_86 : List RP := ⟨(some 89), (some (85, false)), false, (.bin .neq (.t 88) (.c (.int .i64 1)))⟩ :: q17_85
abbrev q17_87 : List RP := ⟨(some 88), (some (85, false)), false, (.len (.t 87))⟩ :: q17_86
abbrev q17_88 : List RP := ⟨(some 87), (some (85, false)), false, (.ld false 1 (.t 86))⟩ :: q17_87
abbrev q17_89 : List RP := ⟨(some 86), (some (85, false)), false, (.fa 1 (.t 7))⟩ :: q17_88
abbrev q17_90 : List RP := ⟨(some 85), none, false, (.mv (.t 84))⟩ :: q17_89
abbrev q17_91 : List RP := ⟨(some 84), none, false, (.pick (.t 79) (.c (.bool true)) (.t 83))⟩ :: q17_90
abbrev q17_92 : List RP := ⟨(some 83), (some (79, false)), false, (.bin .neq (.t 82) (.c (.int .i64 1)))⟩ :: q17_91
abbrev q17_93 : List RP := ⟨(some 82), (some (79, false)), false, (.len (.t 81))⟩ :: q17_92
abbrev q17_94 : List RP := ⟨(some 81), (some (79, false)), false, (.ld false 1 (.t 80))⟩ :: q17_93
abbrev q17_95 : List RP := ⟨(some 80), (some (79, false)), false, (.fa 0 (.t 7))⟩ :: q17_94
abbrev q17_96 : List RP := ⟨(some 79), none, false, (.mv (.t 78))⟩ :: q17_95
abbrev q17_97 : List RP := ⟨(some 78), none, false, (.pick (.t 75) (.c (.bool true)) (.t 77))⟩ :: q17_96
abbrev q17_98 : List RP := ⟨(some 77), (some (75, false)), false, (.bin .neq (.t 76) (.c (.int .i64 1)))⟩ :: q17_97
abbrev q17_99 : List RP := ⟨(some 76), (some (75, false)), false, (.mv (.t 8))⟩ :: q17_98
abbrev q17_100 : List RP := ⟨(some 75), none, false, (.mv (.t 74))⟩ :: q17_99
abbrev q17_101 : List RP := ⟨(some 74), none, false, (.bin .neq (.t 73) (.c (.int .i64 0)))⟩ :: q17_100
abbrev q17_102 : List RP := ⟨(some 73), none, false, (.mv (.t 2))⟩ :: q17_101
abbrev q17_103 : List RP := ⟨(some 0), none, false, (.mv (.c (.bool false)))⟩ :: []
abbrev q17_104 : RQ := (.seq (.reg q17_103) .ret)
abbrev q17_105 : RQ := (.cond (.t 96) q17_104 .skip)
abbrev q17_106 : List (Bool × RP) := (false, ⟨(some 4), none, false, (.mv (.t 103))⟩) :: []
abbrev q17_107 : List (Bool × RP) := (false, ⟨(some 10), none, false, (.mv (.t 102))⟩) :: q17_106
abbrev q17_108 : List (Bool × RP) := (false, ⟨none, none, false, (.st 4 (.t 9) (.t 101))⟩) :: q17_107
abbrev q17_109 : List (Bool × RP) := (false, ⟨(some 9), none, false, (.alloc [.nils, .nils, (.int .u64 0), (.int .i64 0)])⟩) :: q17_108
abbrev q17_110 : List (Bool × RP) := (true, ⟨(some 103), none, false, (.ext (.t 97) 2)⟩) :: q17_109
abbrev q17_111 : List (Bool × RP) := (true, ⟨(some 102), none, false, (.ext (.t 97) 1)⟩) :: q17_110
abbrev q17_112 : List (Bool × RP) := (false, ⟨(some 101), none, false, (.ext (.t 97) 0)⟩) :: q17_111
abbrev q17_113 : List (Bool × RP) := (false, ⟨(some 97), none, false, (.mv (.t 100))⟩) :: q17_112
abbrev q17_114 : List (Bool × RP) := (false, ⟨(some 100), none, false, (.cal 44 [(.t 98), (.t 99)])⟩) :: q17_113
abbrev q17_115 : List (Bool × RP) := (false, ⟨(some 99), none, true, (.ld true 4 (.t 7))⟩) :: q17_114
abbrev q17_116 : List (Bool × RP) := (false, ⟨(some 98), none, true, (.cal 25 [])⟩) :: q17_115
abbrev q17_117 : List (Bool × RP) := (false, ⟨(some 6), none, false, (.mv (.t 109))⟩) :: []
abbrev q17_118 : List (Bool × RP) := (false, ⟨none, none, false, (.st 6 (.t 11) (.t 108))⟩) :: q17_117
abbrev q17_119 : List (Bool × RP) := (false, ⟨(some 11), none, false, (.alloc [(.int .i64 0), (.int .i64 0), (.int .i64 0), (.int .u8 0), (.int .u64 0), (.int .u64 0)])⟩) :: q17_118
abbrev q17_120 : List (Bool × RP) := (true, ⟨(some 109), none, false, (.ext (.t 104) 1)⟩) :: q17_119
abbrev q17_121 : List (Bool × RP) := (false, ⟨(some 108), none, false, (.ext (.t 104) 0)⟩) :: q17_120
abbrev q17_122 : List (Bool × RP) := (false, ⟨(some 104), none, false, (.mv (.t 107))⟩) :: q17_121
abbrev q17_123 : List (Bool × RP) := (false, ⟨(some 107), none, false, (.cal 45 [(.t 105), (.t 106), (.c (.int .i64 1))])⟩) :: q17_122
abbrev q17_124 : List (Bool × RP) := (false, ⟨(some 106), none, true, (.ld true 4 (.t 9))⟩) :: q17_123
abbrev q17_125 : List (Bool × RP) := (false, ⟨(some 105), none, true, (.cal 25 [])⟩) :: q17_124
abbrev q17_126 : List RP := ⟨(some 0), none, false, (.mv (.t 134))⟩ :: []
abbrev q17_127 : List RP := ⟨(some 134), none, false, (.pick (.t 130) (.t 133) (.c (.bool false)))⟩ :: q17_126
abbrev q17_128 : List RP := ⟨(some 133), (some (130, true)), false, (.bin .eql (.t 132) (.c (.int .u8 2)))⟩ :: q17_127
abbrev q17_129 : List RP := ⟨(some 132), (some (130, true)), false, (.ld false 1 (.t 131))⟩ :: q17_128
abbrev q17_130 : List RP := ⟨(some 131), (some (130, true)), false, (.fa 3 (.t 11))⟩ :: q17_129
abbrev q17_131 : List RP := ⟨(some 130), none, false, (.mv (.t 129))⟩ :: q17_130
abbrev q17_132 : List RP := ⟨(some 129), none, false, (.pick (.t 125) (.t 128) (.c (.bool false)))⟩ :: q17_131
abbrev q17_133 : List RP := ⟨(some 128), (some (125, true)), false, (.bin .eql (.t 127) (.c (.int .u64 3)))⟩ :: q17_132
abbrev q17_134 : List RP := ⟨(some 127), (some (125, true)), false, (.ld false 1 (.t 126))⟩ :: q17_133
abbrev q17_135 : List RP := ⟨(some 126), (some (125, true)), false, (.fa 4 (.t 11))⟩ :: q17_134
abbrev q17_136 : List RP := ⟨(some 125), none, false, (.mv (.t 124))⟩ :: q17_135
abbrev q17_137 : List RP := ⟨(some 124), none, false, (.pick (.t 120) (.t 123) (.c (.bool false)))⟩ :: q17_136
abbrev q17_138 : List RP := ⟨(some 123), (some (120, true)), false, (.bin .eql (.t 122) (.c (.int .i64 1)))⟩ :: q17_137
abbrev q17_139 : List RP := ⟨(some 122), (some (120, true)), false, (.ld false 1 (.t 121))⟩ :: q17_138
abbrev q17_140 : List RP := ⟨(some 121), (some (120, true)), false, (.fa 1 (.t 11))⟩ :: q17_139
abbrev q17_141 : List RP := ⟨(some 120), none, false, (.mv (.t 119))⟩ :: q17_140
abbrev q17_142 : List RP := ⟨(some 119), none, false, (.pick (.t 116) (.t 118) (.c (.bool false)))⟩ :: q17_141
abbrev q17_143 : List RP := ⟨(some 118), (some (116, true)), false, (.bin .eql (.t 117) (.c (.int .i64 0)))⟩ :: q17_142
abbrev q17_144 : List RP := ⟨(some 117), (some (116, true)), false, (.mv (.t 6))⟩ :: q17_143
abbrev q17_145 : List RP := ⟨(some 116), none, false, (.mv (.t 115))⟩ :: q17_144
abbrev q17_146 : List RP := ⟨(some 115), none, false, (.pick (.t 112) (.t 114) (.c (.bool false)))⟩ :: q17_145
abbrev q17_147 : List RP := ⟨(some 114), (some (112, true)), false, (.bin .eql (.t 113) (.c (.int .i64 1)))⟩ :: q17_146
abbrev q17_148 : List RP := ⟨(some 113), (some (112, true)), false, (.mv (.t 10))⟩ :: q17_147
abbrev q17_149 : List RP := ⟨(some 112), none, false, (.mv (.t 111))⟩ :: q17_148
abbrev q17_150 : List RP := ⟨(some 111), none, false, (.bin .eql (.t 110) (.c (.int .i64 0)))⟩ :: q17_149
abbrev q17_151 : List RP := ⟨(some 110), none, false, (.mv (.t 4))⟩ :: q17_150
abbrev q17_152 : RQ := (.seq (.reg q17_151) .ret)
abbrev q17_153 : RQ := (.seq (.drw q17_125 []) q17_152)
abbrev q17_154 : RQ := (.seq (.drw q17_116 []) q17_153)
abbrev q17_155 : RQ := (.seq (.seq (.reg q17_102) q17_105) q17_154)
abbrev q17_156 : RQ := (.seq (.reg q17_78) q17_155)
abbrev q17_157 : RQ := (.seq (.seq (.reg q17_64) q17_67) q17_156)
abbrev q17_158 : RQ := (.seq (.reg q17_24) q17_157)
abbrev q17_159 : RQ := (.seq (.reg q17_16) q17_158)
abbrev q17_160 : RQ := (.seq (.reg q17_8) q17_159)
abbrev q17 : RQ := (.seq (.reg q17_1) q17_160)
theorem l17 : ∃ c, f17.body = some c ∧ liteC prog f17.ntmps c = some q17 := ⟨_, rfl, by kernel_rfl⟩
theorem e17 : prog.funcs[17]? = some f17 := by kernel_rfl
theorem r17 : mapO (resOf prog) f17.results.toList = some [(.t 0)] := by kernel_rfl
theorem n17 : f17.ntmps = 135 := rfl
def T17 : TE := .fn q17 [(.t 0)] 135
theorem te17 : TEOK prog 17 T17 := te_fn e17 l17 rfl r17 n17

abbrev q18_1 : List RP := ⟨(some 7), none, false, (.mv (.c (.int .i64 0)))⟩ :: []
abbrev q18_2 : List RP := ⟨(some 6), none, false, (.alloc [(.int .i64 0), (.int .i64 0), (.int .i64 0), (.int .u8 0), (.int .u64 0), (.int .u64 0)])⟩ :: q18_1
abbrev q18_3 : List RP := ⟨(some 3), none, false, (.box (.t 0))⟩ :: q18_2
abbrev q18_4 : List RP := ⟨(some 8), none, false, (.mv (.t 10))⟩ :: []
abbrev q18_5 : List RP := ⟨(some 10), none, false, (.cal 31 [(.t 9)])⟩ :: q18_4
abbrev q18_6 : List RP := ⟨(some 9), none, true, (.ld true 6 (.t 3))⟩ :: q18_5
abbrev q18_7 : List RP := ⟨(some 12), none, false, (.bin .neq (.t 11) (.c (.int .i64 0)))⟩ :: []
abbrev q18_8 : List RP := ⟨(some 11), none, false, (.mv (.t 8))⟩ :: q18_7
abbrev q18_9 : List RP := ⟨(some 7), none, false, (.mv (.t 14))⟩ :: []
abbrev q18_10 : List RP := ⟨none, none, false, (.st 6 (.t 6) (.t 13))⟩ :: q18_9
abbrev q18_11 : List RP := ⟨(some 14), none, false, (.mv (.t 8))⟩ :: q18_10
abbrev q18_12 : List RP := ⟨(some 13), none, false, (.build [(.int .i64 0), (.int .i64 0), (.int .i64 0), (.int .u8 0), (.int .u64 0), (.int .u64 0)] [])⟩ :: q18_11
abbrev q18_13 : RQ := (.seq (.reg q18_12) .ret)
abbrev q18_14 : RQ := (.cond (.t 12) q18_13 .skip)
abbrev q18_15 : RQ := (.seq (.reg q18_8) q18_14)
abbrev q18_16 : List RP := ⟨(some 29), none, false, (.pick (.t 22) (.c (.bool true)) (.t 28))⟩ :: []
abbrev q18_17 : List RP := ⟨(some 28), (some (22, false)), false, (.pick (.t 25) (.t 27) (.c (.bool false)))⟩ :: q18_16
abbrev q18_18 : List RP := ⟨(some 27), (some (25, true)), false, (.bin .eql (.t 26) (.c (.int .u64 0)))⟩ :: q18_17
abbrev q18_19 : List RP := ⟨(some 26), (some (25, true)), false, (.mv (.t 2))⟩ :: q18_18
abbrev q18_20 : List RP := ⟨(some 25), (some (22, false)), false, (.mv (.t 24))⟩ :: q18_19
abbrev q18_21 : List RP := ⟨(some 24), (some (22, false)), false, (.bin .eql (.t 23) (.c (.int .u8 4)))⟩ :: q18_20
abbrev q18_22 : List RP := ⟨(some 23), (some (22, false)), false, (.mv (.t 1))⟩ :: q18_21
abbrev q18_23 : List RP := ⟨(some 22), none, false, (.mv (.t 21))⟩ :: q18_22
abbrev q18_24 : List RP := ⟨(some 21), none, false, (.pick (.t 18) (.c (.bool true)) (.t 20))⟩ :: q18_23
abbrev q18_25 : List RP := ⟨(some 20), (some (18, false)), false, (.bin .gtr (.t 19) (.c (.int .u64 4611686018427387904)))⟩ :: q18_24
abbrev q18_26 : List RP := ⟨(some 19), (some (18, false)), false, (.mv (.t 2))⟩ :: q18_25
abbrev q18_27 : List RP := ⟨(some 18), none, false, (.mv (.t 17))⟩ :: q18_26
abbrev q18_28 : List RP := ⟨(some 17), none, false, (.not (.t 16))⟩ :: q18_27
abbrev q18_29 : List RP := ⟨(some 16), none, false, (.cal 47 [(.t 15)])⟩ :: q18_28
abbrev q18_30 : List RP := ⟨(some 15), none, true, (.mv (.t 1))⟩ :: q18_29
abbrev q18_31 : List RP := ⟨(some 7), none, false, (.mv (.c (.int .i64 2)))⟩ :: []
abbrev q18_32 : List RP := ⟨none, none, false, (.st 6 (.t 6) (.t 30))⟩ :: q18_31
abbrev q18_33 : List RP := ⟨(some 30), none, false, (.build [(.int .i64 0), (.int .i64 0), (.int .i64 0), (.int .u8 0), (.int .u64 0), (.int .u64 0)] [])⟩ :: q18_32
abbrev q18_34 : RQ := (.seq (.reg q18_33) .ret)
abbrev q18_35 : RQ := (.cond (.t 29) q18_34 .skip)
abbrev q18_36 : List RP := ⟨(some 35), none, false, (.not (.t 34))⟩ :: []
abbrev q18_37 : List RP := ⟨(some 34), none, false, (.cal 48 [(.t 32), (.t 33)])⟩ :: q18_36
abbrev q18_38 : List RP := ⟨(some 33), none, true, (.mv (.t 1))⟩ :: q18_37
abbrev q18_39 : List RP := ⟨(some 32), none, true, (.ld false 1 (.t 31))⟩ :: q18_38
abbrev q18_40 : List RP := ⟨(some 31), none, false, (.fa 3 (.t 3))⟩ :: q18_39
abbrev q18_41 : List RP := ⟨(some 7), none, false, (.mv (.c (.int .i64 150)))⟩ :: []
abbrev q18_42 : List RP := ⟨none, none, false, (.st 6 (.t 6) (.t 36))⟩ :: q18_41
abbrev q18_43 : List RP := ⟨(some 36), none, false, (.build [(.int .i64 0), (.int .i64 0), (.int .i64 0), (.int .u8 0), (.int .u64 0), (.int .u64 0)] [])⟩ :: q18_42
abbrev q18_44 : RQ := (.seq (.reg q18_43) .ret)
abbrev q18_45 : RQ := (.cond (.t 35) q18_44 .skip)
abbrev q18_46 : List RP := ⟨none, none, false, (.st 1 (.t 38) (.t 37))⟩ :: []
abbrev q18_47 : List RP := ⟨(some 38), none, false, (.fa 3 (.t 3))⟩ :: q18_46
abbrev q18_48 : List RP := ⟨(some 37), none, false, (.mv (.t 1))⟩ :: q18_47
abbrev q18_49 : List RP := ⟨(some 40), none, false, (.bin .eql (.t 39) (.c (.int .u8 4)))⟩ :: []
abbrev q18_50 : List RP := ⟨(some 39), none, false, (.mv (.t 1))⟩ :: q18_49
abbrev q18_51 : List RP := ⟨none, none, false, (.st 1 (.t 42) (.t 41))⟩ :: []
abbrev q18_52 : List RP := ⟨(some 42), none, false, (.fa 5 (.t 3))⟩ :: q18_51
abbrev q18_53 : List RP := ⟨(some 41), none, false, (.mv (.t 2))⟩ :: q18_52
abbrev q18_54 : RQ := (.reg q18_53)
abbrev q18_55 : RQ := (.cond (.t 40) q18_54 .skip)
abbrev q18_56 : List RP := ⟨(some 7), none, false, (.mv (.c (.int .i64 0)))⟩ :: []
abbrev q18_57 : List RP := ⟨none, none, false, (.st 6 (.t 6) (.t 43))⟩ :: q18_56
abbrev q18_58 : List RP := ⟨(some 43), none, false, (.ld true 6 (.t 3))⟩ :: q18_57
abbrev q18_59 : RQ := (.seq (.reg q18_58) .ret)
abbrev q18_60 : RQ := (.seq (.seq (.reg q18_50) q18_55) q18_59)
abbrev q18_61 : RQ := (.seq (.reg q18_48) q18_60)
abbrev q18_62 : RQ := (.seq (.seq (.reg q18_40) q18_45) q18_61)
abbrev q18_63 : RQ := (.seq (.seq (.reg q18_30) q18_35) q18_62)
abbrev q18_64 : RQ := (.seq (.seq (.reg q18_6) q18_15) q18_63)
abbrev q18 : RQ := (.seq (.reg q18_3) q18_64)
theorem l18 : ∃ c, f18.body = some c ∧ liteC prog f18.ntmps c = some q18 := ⟨_, rfl, by kernel_rfl⟩
theorem e18 : prog.funcs[18]? = some f18 := by kernel_rfl
theorem r18 : mapO (resOf prog) f18.results.toList = some [(.c 6 true 6), (.t 7)] := by kernel_rfl
theorem n18 : f18.ntmps = 44 := rfl
def T18 : TE := .fn q18 [(.c 6 true 6), (.t 7)] 44
theorem te18 : TEOK prog 18 T18 := te_fn e18 l18 rfl r18 n18

abbrev q19_1 : List RP := ⟨(some 9), none, false, (.mv (.c (.int .i64 0)))⟩ :: []
abbrev q19_2 : List RP := ⟨(some 8), none, false, (.alloc [(.int .u64 0), (.int .i64 0)])⟩ :: q19_1
abbrev q19_3 : List RP := ⟨(some 4), none, false, (.box (.t 0))⟩ :: q19_2
abbrev q19_4 : List RP := ⟨(some 11), none, false, (.mv (.t 19))⟩ :: []
abbrev q19_5 : List RP := ⟨(some 10), none, false, (.mv (.t 18))⟩ :: q19_4
abbrev q19_6 : List RP := ⟨(some 19), none, false, (.ext (.t 12) 1)⟩ :: q19_5
abbrev q19_7 : List RP := ⟨(some 18), none, false, (.ext (.t 12) 0)⟩ :: q19_6
abbrev q19_8 : List RP := ⟨(some 12), none, false, (.mv (.t 17))⟩ :: q19_7
abbrev q19_9 : List RP := ⟨(some 17), none, false, (.cal 20 [(.t 13), (.t 14), (.t 15), (.t 16)])⟩ :: q19_8
abbrev q19_10 : List RP := ⟨(some 16), none, true, (.mv (.t 3))⟩ :: q19_9
abbrev q19_11 : List RP := ⟨(some 15), none, true, (.mv (.t 2))⟩ :: q19_10
abbrev q19_12 : List RP := ⟨(some 14), none, true, (.mv (.t 1))⟩ :: q19_11
abbrev q19_13 : List RP := ⟨(some 13), none, true, (.ld true 2 (.t 4))⟩ :: q19_12
abbrev q19_14 : List RP := ⟨(some 21), none, false, (.bin .neq (.t 20) (.c (.int .i64 0)))⟩ :: []
abbrev q19_15 : List RP := ⟨(some 20), none, false, (.mv (.t 11))⟩ :: q19_14
abbrev q19_16 : List RP := ⟨(some 9), none, false, (.mv (.t 23))⟩ :: []
abbrev q19_17 : List RP := ⟨none, none, false, (.st 2 (.t 8) (.t 22))⟩ :: q19_16
abbrev q19_18 : List RP := ⟨(some 23), none, false, (.mv (.t 11))⟩ :: q19_17
abbrev q19_19 : List RP := ⟨(some 22), none, false, (.build [(.int .u64 0), (.int .i64 0)] [])⟩ :: q19_18
abbrev q19_20 : RQ := (.seq (.reg q19_19) .ret)
abbrev q19_21 : RQ := (.cond (.t 21) q19_20 .skip)
abbrev q19_22 : List RP := ⟨(some 25), none, false, (.bin .eql (.t 24) (.c (.int .i64 0)))⟩ :: []
abbrev q19_23 : List RP := ⟨(some 24), none, false, (.mv (.t 10))⟩ :: q19_22
abbrev q19_24 : List RP := ⟨(some 9), none, false, (.mv (.c (.int .i64 160)))⟩ :: []
abbrev q19_25 : List RP := ⟨none, none, false, (.st 2 (.t 8) (.t 26))⟩ :: q19_24
abbrev q19_26 : List RP := ⟨(some 26), none, false, (.build [(.int .u64 0), (.int .i64 0)] [])⟩ :: q19_25
abbrev q19_27 : RQ := (.seq (.reg q19_26) .ret)
abbrev q19_28 : RQ := (.cond (.t 25) q19_27 .skip)
abbrev q19_29 : List RP := ⟨(some 9), none, false, (.mv (.c (.int .i64 0)))⟩ :: []
abbrev q19_30 : List RP := ⟨none, none, false, (.st 2 (.t 8) (.t 34))⟩ :: q19_29
abbrev q19_31 : List RP := ⟨(some 34), none, false, (.build [(.int .u64 0), (.int .i64 0)] [(0, 1, (.t 29)), (1, 1, (.t 33))])⟩ :: q19_30
abbrev q19_32 : List RP := ⟨(some 33), none, false, (.bin .add (.t 32) (.c (.int .i64 1)))⟩ :: q19_31
abbrev q19_33 : List RP := ⟨(some 32), none, false, (.bin .sub (.t 30) (.t 31))⟩ :: q19_32
abbrev q19_34 : List RP := ⟨(some 31), none, false, (.mv (.t 10))⟩ :: q19_33
abbrev q19_35 : List RP := ⟨(some 30), none, false, (.mv (.t 2))⟩ :: q19_34
abbrev q19_36 : List RP := ⟨(some 29), none, false, (.cal 49 [(.t 27), (.t 28)])⟩ :: q19_35
abbrev q19_37 : List RP := ⟨(some 28), none, true, (.mv (.t 1))⟩ :: q19_36
abbrev q19_38 : List RP := ⟨(some 27), none, true, (.mv (.t 3))⟩ :: q19_37
abbrev q19_39 : RQ := (.seq (.reg q19_38) .ret)
abbrev q19_40 : RQ := (.seq (.seq (.reg q19_23) q19_28) q19_39)
abbrev q19_41 : RQ := (.seq (.seq (.reg q19_15) q19_21) q19_40)
abbrev q19_42 : RQ := (.seq (.reg q19_13) q19_41)
abbrev q19 : RQ := (.seq (.reg q19_3) q19_42)
theorem l19 : ∃ c, f19.body = some c ∧ liteC prog f19.ntmps c = some q19 := ⟨_, rfl, by kernel_rfl⟩
theorem e19 : prog.funcs[19]? = some f19 := by kernel_rfl
theorem r19 : mapO (resOf prog) f19.results.toList = some [(.c 8 true 2), (.t 9)] := by kernel_rfl
theorem n19 : f19.ntmps = 35 := rfl
def T19 : TE := .fn q19 [(.c 8 true 2), (.t 9)] 35
theorem te19 : TEOK prog 19 T19 := te_fn e19 l19 rfl r19 n19

abbrev q20_1 : List RP := ⟨(some 9), none, false, (.mv (.c (.int .i64 0)))⟩ :: []
abbrev q20_2 : List RP := ⟨(some 8), none, false, (.mv (.c (.int .i64 0)))⟩ :: q20_1
abbrev q20_3 : List RP := ⟨(some 4), none, false, (.box (.t 0))⟩ :: q20_2
abbrev q20_4 : List RP := ⟨(some 10), none, false, (.mv (.t 14))⟩ :: []
abbrev q20_5 : List RP := ⟨(some 14), none, false, (.cal 21 [(.t 11), (.t 12), (.t 13)])⟩ :: q20_4
abbrev q20_6 : List RP := ⟨(some 13), none, true, (.mv (.t 2))⟩ :: q20_5
abbrev q20_7 : List RP := ⟨(some 12), none, true, (.mv (.t 1))⟩ :: q20_6
abbrev q20_8 : List RP := ⟨(some 11), none, true, (.ld true 2 (.t 4))⟩ :: q20_7
abbrev q20_9 : List RP := ⟨(some 16), none, false, (.bin .neq (.t 15) (.c (.int .i64 0)))⟩ :: []
abbrev q20_10 : List RP := ⟨(some 15), none, false, (.mv (.t 10))⟩ :: q20_9
abbrev q20_11 : List RP := ⟨(some 9), none, false, (.mv (.t 17))⟩ :: []
abbrev q20_12 : List RP := ⟨(some 8), none, false, (.mv (.c (.int .i64 0)))⟩ :: q20_11
abbrev q20_13 : List RP := ⟨(some 17), none, false, (.mv (.t 10))⟩ :: q20_12
abbrev q20_14 : RQ := (.seq (.reg q20_13) .ret)
abbrev q20_15 : RQ := (.cond (.t 16) q20_14 .skip)
abbrev q20_16 : RQ := (.seq (.reg q20_10) q20_15)
abbrev q20_17 : List RP := ⟨(some 19), none, false, (.bin .gtr (.t 18) (.c (.int .u64 4611686018427387904)))⟩ :: []
abbrev q20_18 : List RP := ⟨(some 18), none, false, (.mv (.t 3))⟩ :: q20_17
abbrev q20_19 : List RP := ⟨(some 9), none, false, (.mv (.c (.int .i64 2)))⟩ :: []
abbrev q20_20 : List RP := ⟨(some 8), none, false, (.mv (.c (.int .i64 0)))⟩ :: q20_19
abbrev q20_21 : RQ := (.seq (.reg q20_20) .ret)
abbrev q20_22 : RQ := (.cond (.t 19) q20_21 .skip)
abbrev q20_23 : List (Bool × RP) := (false, ⟨(some 25), none, false, (.bin .neq (.t 22) (.t 24))⟩) :: []
abbrev q20_24 : List (Bool × RP) := (false, ⟨(some 24), none, false, (.ld false 1 (.t 23))⟩) :: q20_23
abbrev q20_25 : List (Bool × RP) := (false, ⟨(some 23), none, false, (.fa 0 (.t 4))⟩) :: q20_24
abbrev q20_26 : List (Bool × RP) := (false, ⟨(some 22), none, false, (.cal 49 [(.t 20), (.t 21)])⟩) :: q20_25
abbrev q20_27 : List (Bool × RP) := (false, ⟨(some 21), none, true, (.mv (.t 1))⟩) :: q20_26
abbrev q20_28 : List (Bool × RP) := (false, ⟨(some 20), none, true, (.mv (.t 3))⟩) :: q20_27
abbrev q20_29 : List RP := ⟨(some 9), none, false, (.mv (.c (.int .i64 0)))⟩ :: []
abbrev q20_30 : List RP := ⟨(some 8), none, false, (.mv (.t 26))⟩ :: q20_29
abbrev q20_31 : List RP := ⟨(some 26), none, false, (.mv (.t 2))⟩ :: q20_30
abbrev q20_32 : RQ := (.seq (.reg q20_31) .ret)
abbrev q20_33 : RQ := (.cond (.t 25) q20_32 .skip)
abbrev q20_34 : List RP := ⟨(some 9), none, false, (.mv (.c (.int .i64 0)))⟩ :: []
abbrev q20_35 : List RP := ⟨(some 8), none, false, (.mv (.t 30))⟩ :: q20_34
abbrev q20_36 : List RP := ⟨(some 30), none, false, (.bin .sub (.t 27) (.t 29))⟩ :: q20_35
abbrev q20_37 : List RP := ⟨(some 29), none, false, (.ld false 1 (.t 28))⟩ :: q20_36
abbrev q20_38 : List RP := ⟨(some 28), none, false, (.fa 1 (.t 4))⟩ :: q20_37
abbrev q20_39 : List RP := ⟨(some 27), none, false, (.mv (.t 2))⟩ :: q20_38
abbrev q20_40 : RQ := (.seq (.reg q20_39) .ret)
abbrev q20_41 : RQ := (.seq (.seq (.drw q20_28 []) q20_33) q20_40)
abbrev q20_42 : RQ := (.seq (.seq (.reg q20_18) q20_22) q20_41)
abbrev q20_43 : RQ := (.seq (.seq (.reg q20_8) q20_16) q20_42)
abbrev q20 : RQ := (.seq (.reg q20_3) q20_43)
theorem l20 : ∃ c, f20.body = some c ∧ liteC prog f20.ntmps c = some q20 := ⟨_, rfl, by kernel_rfl⟩
theorem e20 : prog.funcs[20]? = some f20 := by kernel_rfl
theorem r20 : mapO (resOf prog) f20.results.toList = some [(.t 8), (.t 9)] := by kernel_rfl
theorem n20 : f20.ntmps = 31 := rfl
def T20 : TE := .fn q20 [(.t 8), (.t 9)] 31
theorem te20 : TEOK prog 20 T20 := te_fn e20 l20 rfl r20 n20

abbrev q21_1 : List RP := ⟨(some 6), none, false, (.mv (.c (.int .i64 0)))⟩ :: []
abbrev q21_2 : List RP := ⟨(some 3), none, false, (.box (.t 0))⟩ :: q21_1
abbrev q21_3 : List RP := ⟨(some 16), none, false, (.pick (.t 11) (.c (.bool true)) (.t 15))⟩ :: []
abbrev q21_4 : List RP := ⟨(some 15), (some (11, false)), false, (.not (.t 14))⟩ :: q21_3
abbrev q21_5 : List RP := ⟨(some 14), (some (11, false)), false, (.cal 50 [(.c (.int .i64 1)), (.c (.int .i64 16)), (.t 13)])⟩ :: q21_4
abbrev q21_6 : List RP := ⟨(some 13), (some (11, false)), true, (.bslice 1 1 [(.int .i64 0)] [(0, (.t 12))])⟩ :: q21_5
abbrev q21_7 : List RP := ⟨(some 12), (some (11, false)), false, (.mv (.t 2))⟩ :: q21_6
abbrev q21_8 : List RP := ⟨(some 11), none, false, (.mv (.t 10))⟩ :: q21_7
abbrev q21_9 : List RP := ⟨(some 10), none, false, (.not (.t 9))⟩ :: q21_8
abbrev q21_10 : List RP := ⟨(some 9), none, false, (.cal 50 [(.c (.int .i64 1)), (.c (.int .i64 64)), (.t 8)])⟩ :: q21_9
abbrev q21_11 : List RP := ⟨(some 8), none, true, (.bslice 1 1 [(.int .i64 0)] [(0, (.t 7))])⟩ :: q21_10
abbrev q21_12 : List RP := ⟨(some 7), none, false, (.mv (.t 1))⟩ :: q21_11
abbrev q21_13 : List RP := ⟨(some 6), none, false, (.mv (.c (.int .i64 2)))⟩ :: []
abbrev q21_14 : RQ := (.seq (.reg q21_13) .ret)
abbrev q21_15 : RQ := (.cond (.t 16) q21_14 .skip)
abbrev q21_16 : List RP := ⟨(some 27), none, false, (.pick (.t 20) (.c (.bool true)) (.t 26))⟩ :: []
abbrev q21_17 : List RP := ⟨(some 26), (some (20, false)), false, (.not (.t 25))⟩ :: q21_16
abbrev q21_18 : List RP := ⟨(some 25), (some (20, false)), false, (.cal 50 [(.c (.int .i64 0)), (.t 21), (.t 24)])⟩ :: q21_17
abbrev q21_19 : List RP := ⟨(some 24), (some (20, false)), true, (.bslice 1 1 [(.int .i64 0)] [(0, (.t 23))])⟩ :: q21_18
abbrev q21_20 : List RP := ⟨(some 23), (some (20, false)), false, (.ld false 1 (.t 22))⟩ :: q21_19
abbrev q21_21 : List RP := ⟨(some 22), (some (20, false)), false, (.fa 1 (.t 3))⟩ :: q21_20
abbrev q21_22 : List RP := ⟨(some 21), (some (20, false)), true, (.mv (.t 2))⟩ :: q21_21
abbrev q21_23 : List RP := ⟨(some 20), none, false, (.mv (.t 19))⟩ :: q21_22
abbrev q21_24 : List RP := ⟨(some 19), none, false, (.bin .gtr (.t 18) (.c (.int .u64 4611686018427387904)))⟩ :: q21_23
abbrev q21_25 : List RP := ⟨(some 18), none, false, (.ld false 1 (.t 17))⟩ :: q21_24
abbrev q21_26 : List RP := ⟨(some 17), none, false, (.fa 0 (.t 3))⟩ :: q21_25
abbrev q21_27 : List RP := ⟨(some 6), none, false, (.mv (.c (.int .i64 8)))⟩ :: []
abbrev q21_28 : RQ := (.seq (.reg q21_27) .ret)
abbrev q21_29 : RQ := (.cond (.t 27) q21_28 .skip)
abbrev q21_30 : List RP := ⟨(some 6), none, false, (.mv (.c (.int .i64 0)))⟩ :: []
abbrev q21_31 : RQ := (.seq (.reg q21_30) .ret)
abbrev q21_32 : RQ := (.seq (.seq (.reg q21_26) q21_29) q21_31)
abbrev q21_33 : RQ := (.seq (.seq (.reg q21_12) q21_15) q21_32)
abbrev q21 : RQ := (.seq (.reg q21_2) q21_33)
theorem l21 : ∃ c, f21.body = some c ∧ liteC prog f21.ntmps c = some q21 := ⟨_, rfl, by kernel_rfl⟩
theorem e21 : prog.funcs[21]? = some f21 := by kernel_rfl
theorem r21 : mapO (resOf prog) f21.results.toList = some [(.t 6)] := by kernel_rfl
theorem n21 : f21.ntmps = 28 := rfl
def T21 : TE := .fn q21 [(.t 6)] 28
theorem te21 : TEOK prog 21 T21 := te_fn e21 l21 rfl r21 n21

abbrev q24_1 : List RP := ⟨(some 6), none, false, (.alloc [.nils, .nils, (.int .u64 0), (.int .i64 0), (.int .i64 0), (.int .i64 0), (.int .i64 0), (.int .i64 0), (.int .u8 0), (.int .u64 0), (.int .u64 0), (.int .i64 0), (.int .i64 0), (.int .i64 0), (.int .i64 0), (.int .i64 0), (.int .i64 0), (.int .i64 0)])⟩ :: []
abbrev q24_2 : List RP := ⟨(some 5), none, false, (.box (.t 2))⟩ :: q24_1
abbrev q24_3 : List RP := ⟨(some 4), none, false, (.box (.t 1))⟩ :: q24_2
abbrev q24_4 : List RP := ⟨(some 3), none, false, (.box (.t 0))⟩ :: q24_3
abbrev q24_5 : List RP := ⟨none, none, false, (.st 18 (.t 7) (.t 9))⟩ :: []
abbrev q24_6 : List RP := ⟨(some 7), none, false, (.alloc [.nils, .nils, (.int .u64 0), (.int .i64 0), (.int .i64 0), (.int .i64 0), (.int .i64 0), (.int .i64 0), (.int .u8 0), (.int .u64 0), (.int .u64 0), (.int .i64 0), (.int .i64 0), (.int .i64 0), (.int .i64 0), (.int .i64 0), (.int .i64 0), (.int .i64 0)])⟩ :: q24_5
abbrev q24_7 : List RP := ⟨(some 9), none, false, (.build [.nils, .nils, (.int .u64 0), (.int .i64 0), (.int .i64 0), (.int .i64 0), (.int .i64 0), (.int .i64 0), (.int .u8 0), (.int .u64 0), (.int .u64 0), (.int .i64 0), (.int .i64 0), (.int .i64 0), (.int .i64 0), (.int .i64 0), (.int .i64 0), (.int .i64 0)] [])⟩ :: q24_6
abbrev q24_8 : List RP := ⟨(some 8), none, false, (.mv (.c (.int .i64 0)))⟩ :: []
abbrev q24_9 : List RP := ⟨(some 12), none, false, (.bin .rem (.t 11) (.c (.int .u8 7)))⟩ :: []
abbrev q24_10 : List RP := ⟨(some 11), none, false, (.ld false 1 (.t 10))⟩ :: q24_9
abbrev q24_11 : List RP := ⟨(some 10), none, false, (.fa 0 (.t 5))⟩ :: q24_10
abbrev q24_12 : List RP := ⟨(some 13), none, false, (.mv (.t 14))⟩ :: []
abbrev q24_13 : List RP := ⟨(some 14), none, false, (.bin .eql (.t 12) (.c (.int .u8 0)))⟩ :: q24_12
abbrev q24_14 : List RP := ⟨(some 8), none, false, (.mv (.t 27))⟩ :: []
abbrev q24_15 : List RP := ⟨none, none, false, (.st 1 (.t 29) (.t 26))⟩ :: q24_14
abbrev q24_16 : List RP := ⟨(some 29), none, false, (.fa 4 (.t 7))⟩ :: q24_15
abbrev q24_17 : List RP := ⟨none, none, false, (.st 4 (.t 28) (.t 25))⟩ :: q24_16
abbrev q24_18 : List RP := ⟨(some 28), none, false, (.fa 0 (.t 7))⟩ :: q24_17
abbrev q24_19 : List RP := ⟨(some 27), none, false, (.ext (.t 15) 2)⟩ :: q24_18
abbrev q24_20 : List RP := ⟨(some 26), none, false, (.ext (.t 15) 1)⟩ :: q24_19
abbrev q24_21 : List RP := ⟨(some 25), none, false, (.ext (.t 15) 0)⟩ :: q24_20
abbrev q24_22 : List RP := ⟨(some 15), none, false, (.mv (.t 24))⟩ :: q24_21
abbrev q24_23 : List RP := ⟨(some 24), none, false, (.cal 28 [(.t 16), (.t 17), (.t 19), (.t 21), (.t 23)])⟩ :: q24_22
abbrev q24_24 : List RP := ⟨(some 23), none, true, (.ld false 1 (.t 22))⟩ :: q24_23
abbrev q24_25 : List RP := ⟨(some 22), none, false, (.fa 4 (.t 5))⟩ :: q24_24
abbrev q24_26 : List RP := ⟨(some 21), none, true, (.ld false 1 (.t 20))⟩ :: q24_25
abbrev q24_27 : List RP := ⟨(some 20), none, false, (.fa 2 (.t 5))⟩ :: q24_26
abbrev q24_28 : List RP := ⟨(some 19), none, true, (.ld false 1 (.t 18))⟩ :: q24_27
abbrev q24_29 : List RP := ⟨(some 18), none, false, (.fa 1 (.t 5))⟩ :: q24_28
abbrev q24_30 : List RP := ⟨(some 17), none, true, (.ld true 4 (.t 4))⟩ :: q24_29
abbrev q24_31 : List RP := ⟨(some 16), none, true, (.ld true 8 (.t 3))⟩ :: q24_30
abbrev q24_32 : RQ := (.reg q24_31)
abbrev q24_33 : List RP := ⟨(some 30), none, false, (.mv (.t 31))⟩ :: []
abbrev q24_34 : List RP := ⟨(some 31), none, false, (.bin .eql (.t 12) (.c (.int .u8 1)))⟩ :: q24_33
abbrev q24_35 : List RP := ⟨(some 8), none, false, (.mv (.t 39))⟩ :: []
abbrev q24_36 : List RP := ⟨none, none, false, (.st 4 (.t 40) (.t 38))⟩ :: q24_35
abbrev q24_37 : List RP := ⟨(some 40), none, false, (.fa 0 (.t 7))⟩ :: q24_36
abbrev q24_38 : List RP := ⟨(some 39), none, false, (.ext (.t 32) 1)⟩ :: q24_37
abbrev q24_39 : List RP := ⟨(some 38), none, false, (.ext (.t 32) 0)⟩ :: q24_38
abbrev q24_40 : List RP := ⟨(some 32), none, false, (.mv (.t 37))⟩ :: q24_39
abbrev q24_41 : List RP := ⟨(some 37), none, false, (.cal 46 [(.t 33), (.t 34), (.t 36)])⟩ :: q24_40
abbrev q24_42 : List RP := ⟨(some 36), none, true, (.ld false 1 (.t 35))⟩ :: q24_41
abbrev q24_43 : List RP := ⟨(some 35), none, false, (.fa 3 (.t 5))⟩ :: q24_42
abbrev q24_44 : List RP := ⟨(some 34), none, true, (.ld true 4 (.t 4))⟩ :: q24_43
abbrev q24_45 : List RP := ⟨(some 33), none, true, (.ld true 8 (.t 3))⟩ :: q24_44
abbrev q24_46 : RQ := (.reg q24_45)
abbrev q24_47 : List RP := ⟨(some 41), none, false, (.mv (.t 42))⟩ :: []
abbrev q24_48 : List RP := ⟨(some 42), none, false, (.bin .eql (.t 12) (.c (.int .u8 2)))⟩ :: q24_47
abbrev q24_49 : List RP := ⟨(some 8), none, false, (.mv (.t 49))⟩ :: []
abbrev q24_50 : List RP := ⟨none, none, false, (.st 1 (.t 51) (.t 48))⟩ :: q24_49
abbrev q24_51 : List RP := ⟨(some 51), none, false, (.fa 4 (.t 7))⟩ :: q24_50
abbrev q24_52 : List RP := ⟨none, none, false, (.st 4 (.t 50) (.t 47))⟩ :: q24_51
abbrev q24_53 : List RP := ⟨(some 50), none, false, (.fa 0 (.t 7))⟩ :: q24_52
abbrev q24_54 : List RP := ⟨(some 49), none, false, (.ext (.t 43) 2)⟩ :: q24_53
abbrev q24_55 : List RP := ⟨(some 48), none, false, (.ext (.t 43) 1)⟩ :: q24_54
abbrev q24_56 : List RP := ⟨(some 47), none, false, (.ext (.t 43) 0)⟩ :: q24_55
abbrev q24_57 : List RP := ⟨(some 43), none, false, (.mv (.t 46))⟩ :: q24_56
abbrev q24_58 : List RP := ⟨(some 46), none, false, (.cal 44 [(.t 44), (.t 45)])⟩ :: q24_57
abbrev q24_59 : List RP := ⟨(some 45), none, true, (.ld true 4 (.t 4))⟩ :: q24_58
abbrev q24_60 : List RP := ⟨(some 44), none, true, (.ld true 8 (.t 3))⟩ :: q24_59
abbrev q24_61 : RQ := (.reg q24_60)
abbrev q24_62 : List RP := ⟨(some 52), none, false, (.mv (.t 53))⟩ :: []
abbrev q24_63 : List RP := ⟨(some 53), none, false, (.bin .eql (.t 12) (.c (.int .u8 3)))⟩ :: q24_62
abbrev q24_64 : List RP := ⟨(some 8), none, false, (.mv (.t 61))⟩ :: []
abbrev q24_65 : List RP := ⟨none, none, false, (.st 4 (.t 62) (.t 60))⟩ :: q24_64
abbrev q24_66 : List RP := ⟨(some 62), none, false, (.fa 0 (.t 7))⟩ :: q24_65
abbrev q24_67 : List RP := ⟨(some 61), none, false, (.ext (.t 54) 1)⟩ :: q24_66
abbrev q24_68 : List RP := ⟨(some 60), none, false, (.ext (.t 54) 0)⟩ :: q24_67
abbrev q24_69 : List RP := ⟨(some 54), none, false, (.mv (.t 59))⟩ :: q24_68
abbrev q24_70 : List RP := ⟨(some 59), none, false, (.cal 51 [(.t 55), (.t 56), (.t 58)])⟩ :: q24_69
abbrev q24_71 : List RP := ⟨(some 58), none, true, (.ld false 1 (.t 57))⟩ :: q24_70
abbrev q24_72 : List RP := ⟨(some 57), none, false, (.fa 3 (.t 5))⟩ :: q24_71
abbrev q24_73 : List RP := ⟨(some 56), none, true, (.ld true 4 (.t 4))⟩ :: q24_72
abbrev q24_74 : List RP := ⟨(some 55), none, true, (.ld true 8 (.t 3))⟩ :: q24_73
abbrev q24_75 : RQ := (.reg q24_74)
abbrev q24_76 : List RP := ⟨(some 63), none, false, (.mv (.t 64))⟩ :: []
abbrev q24_77 : List RP := ⟨(some 64), none, false, (.bin .eql (.t 12) (.c (.int .u8 4)))⟩ :: q24_76
abbrev q24_78 : List RP := ⟨(some 8), none, false, (.mv (.t 74))⟩ :: []
abbrev q24_79 : List RP := ⟨none, none, false, (.st 4 (.t 75) (.t 73))⟩ :: q24_78
abbrev q24_80 : List RP := ⟨(some 75), none, false, (.fa 0 (.t 7))⟩ :: q24_79
abbrev q24_81 : List RP := ⟨(some 74), none, false, (.ext (.t 65) 1)⟩ :: q24_80
abbrev q24_82 : List RP := ⟨(some 73), none, false, (.ext (.t 65) 0)⟩ :: q24_81
abbrev q24_83 : List RP := ⟨(some 65), none, false, (.mv (.t 72))⟩ :: q24_82
abbrev q24_84 : List RP := ⟨(some 72), none, false, (.cal 52 [(.t 66), (.t 67), (.t 69), (.t 71)])⟩ :: q24_83
abbrev q24_85 : List RP := ⟨(some 71), none, true, (.ld false 1 (.t 70))⟩ :: q24_84
abbrev q24_86 : List RP := ⟨(some 70), none, false, (.fa 4 (.t 5))⟩ :: q24_85
abbrev q24_87 : List RP := ⟨(some 69), none, true, (.ld false 1 (.t 68))⟩ :: q24_86
abbrev q24_88 : List RP := ⟨(some 68), none, false, (.fa 3 (.t 5))⟩ :: q24_87
abbrev q24_89 : List RP := ⟨(some 67), none, true, (.ld true 4 (.t 4))⟩ :: q24_88
abbrev q24_90 : List RP := ⟨(some 66), none, true, (.ld true 8 (.t 3))⟩ :: q24_89
abbrev q24_91 : RQ := (.reg q24_90)
abbrev q24_92 : List RP := ⟨(some 76), none, false, (.mv (.t 77))⟩ :: []
abbrev q24_93 : List RP := ⟨(some 77), none, false, (.bin .eql (.t 12) (.c (.int .u8 5)))⟩ :: q24_92
abbrev q24_94 : List RP := ⟨(some 8), none, false, (.mv (.t 85))⟩ :: []
abbrev q24_95 : List RP := ⟨none, none, false, (.st 6 (.t 86) (.t 84))⟩ :: q24_94
abbrev q24_96 : List RP := ⟨(some 86), none, false, (.fa 5 (.t 7))⟩ :: q24_95
abbrev q24_97 : List RP := ⟨(some 85), none, false, (.ext (.t 78) 1)⟩ :: q24_96
abbrev q24_98 : List RP := ⟨(some 84), none, false, (.ext (.t 78) 0)⟩ :: q24_97
abbrev q24_99 : List RP := ⟨(some 78), none, false, (.mv (.t 83))⟩ :: q24_98
abbrev q24_100 : List RP := ⟨(some 83), none, false, (.cal 45 [(.t 79), (.t 80), (.t 82)])⟩ :: q24_99
abbrev q24_101 : List RP := ⟨(some 82), none, true, (.ld false 1 (.t 81))⟩ :: q24_100
abbrev q24_102 : List RP := ⟨(some 81), none, false, (.fa 3 (.t 5))⟩ :: q24_101
abbrev q24_103 : List RP := ⟨(some 80), none, true, (.ld true 4 (.t 4))⟩ :: q24_102
abbrev q24_104 : List RP := ⟨(some 79), none, true, (.ld true 8 (.t 3))⟩ :: q24_103
abbrev q24_105 : RQ := (.reg q24_104)
abbrev q24_106 : List RP := ⟨(some 87), none, false, (.mv (.t 88))⟩ :: []
abbrev q24_107 : List RP := ⟨(some 88), none, false, (.bin .eql (.t 12) (.c (.int .u8 6)))⟩ :: q24_106
abbrev q24_108 : List RP := ⟨(some 8), none, false, (.mv (.t 94))⟩ :: []
abbrev q24_109 : List RP := ⟨none, none, false, (.st 6 (.t 95) (.t 93))⟩ :: q24_108
abbrev q24_110 : List RP := ⟨(some 95), none, false, (.fa 11 (.t 7))⟩ :: q24_109
abbrev q24_111 : List RP := ⟨(some 94), none, false, (.ext (.t 89) 1)⟩ :: q24_110
abbrev q24_112 : List RP := ⟨(some 93), none, false, (.ext (.t 89) 0)⟩ :: q24_111
abbrev q24_113 : List RP := ⟨(some 89), none, false, (.mv (.t 92))⟩ :: q24_112
abbrev q24_114 : List RP := ⟨(some 92), none, false, (.cal 27 [(.t 90), (.t 91)])⟩ :: q24_113
abbrev q24_115 : List RP := ⟨(some 91), none, true, (.ld true 4 (.t 4))⟩ :: q24_114
abbrev q24_116 : List RP := ⟨(some 90), none, true, (.ld true 8 (.t 3))⟩ :: q24_115
abbrev q24_117 : RQ := (.reg q24_116)
abbrev q24_118 : RQ := (.cond (.t 87) q24_117 .skip)
abbrev q24_119 : RQ := (.seq (.reg q24_107) q24_118)
abbrev q24_120 : RQ := (.cond (.t 76) q24_105 q24_119)
abbrev q24_121 : RQ := (.seq (.reg q24_93) q24_120)
abbrev q24_122 : RQ := (.cond (.t 63) q24_91 q24_121)
abbrev q24_123 : RQ := (.seq (.reg q24_77) q24_122)
abbrev q24_124 : RQ := (.cond (.t 52) q24_75 q24_123)
abbrev q24_125 : RQ := (.seq (.reg q24_63) q24_124)
abbrev q24_126 : RQ := (.cond (.t 41) q24_61 q24_125)
abbrev q24_127 : RQ := (.seq (.reg q24_48) q24_126)
abbrev q24_128 : RQ := (.cond (.t 30) q24_46 q24_127)
abbrev q24_129 : RQ := (.seq (.reg q24_34) q24_128)
abbrev q24_130 : RQ := (.cond (.t 13) q24_32 q24_129)
abbrev q24_131 : RQ := (.block 0 (.seq (.reg q24_13) q24_130))
abbrev q24_132 : List RP := ⟨none, none, false, (.st 1 (.t 97) (.t 96))⟩ :: []
abbrev q24_133 : List RP := ⟨(some 97), none, false, (.fa 17 (.t 7))⟩ :: q24_132
abbrev q24_134 : List RP := ⟨(some 96), none, false, (.mv (.t 8))⟩ :: q24_133
abbrev q24_135 : List RP := ⟨none, none, false, (.st 18 (.t 6) (.t 98))⟩ :: []
abbrev q24_136 : List RP := ⟨(some 98), none, false, (.ld true 18 (.t 7))⟩ :: q24_135
abbrev q24_137 : RQ := (.seq (.reg q24_136) .ret)
abbrev q24_138 : RQ := (.seq (.reg q24_134) q24_137)
abbrev q24_139 : RQ := (.seq (.seq (.reg q24_11) q24_131) q24_138)
abbrev q24_140 : RQ := (.seq (.reg q24_8) q24_139)
abbrev q24_141 : RQ := (.seq (.reg q24_7) q24_140)
abbrev q24 : RQ := (.seq (.reg q24_4) q24_141)
theorem l24 : ∃ c, f24.body = some c ∧ liteC prog f24.ntmps c = some q24 := ⟨_, rfl, by kernel_rfl⟩
theorem e24 : prog.funcs[24]? = some f24 := by kernel_rfl
theorem r24 : mapO (resOf prog) f24.results.toList = some [(.c 6 true 18)] := by kernel_rfl
theorem n24 : f24.ntmps = 99 := rfl
def T24 : TE := .fn q24 [(.c 6 true 18)] 99
theorem te24 : TEOK prog 24 T24 := te_fn e24 l24 rfl r24 n24

abbrev q25_1 : List RP := ⟨(some 0), none, false, (.alloc [.nils, .nils, .nils, (.int .i64 0), (.int .i64 0), (.int .i64 0), (.int .i64 0), (.int .i64 0)])⟩ :: []
abbrev q25_2 : List RP := ⟨none, none, false, (.st 8 (.t 0) (.t 4))⟩ :: []
abbrev q25_3 : List RP := ⟨(some 4), none, false, (.build [.nils, .nils, .nils, (.int .i64 0), (.int .i64 0), (.int .i64 0), (.int .i64 0), (.int .i64 0)] [(0, 1, (.t 1)), (1, 1, (.t 2)), (2, 1, (.t 3)), (3, 1, (.c (.int .i64 1))), (4, 1, (.c (.int .i64 1))), (5, 1, (.c (.int .i64 2))), (6, 1, (.c (.int .i64 3))), (7, 1, (.c (.int .i64 8)))])⟩ :: q25_2
abbrev q25_4 : List RP := ⟨(some 3), none, false, (.bslice 1 1 [(.int .i64 0)] [(0, (.c (.int .i64 3)))])⟩ :: q25_3
abbrev q25_5 : List RP := ⟨(some 2), none, false, (.bslice 1 2 [(.int .i64 0)] [(0, (.c (.int .i64 1))), (1, (.c (.int .i64 2)))])⟩ :: q25_4
abbrev q25_6 : List RP := ⟨(some 1), none, false, (.bslice 1 1 [(.int .i64 0)] [(0, (.c (.int .i64 0)))])⟩ :: q25_5
abbrev q25_7 : RQ := (.seq (.reg q25_6) .ret)
abbrev q25 : RQ := (.seq (.reg q25_1) q25_7)
theorem l25 : ∃ c, f25.body = some c ∧ liteC prog f25.ntmps c = some q25 := ⟨_, rfl, by kernel_rfl⟩
theorem e25 : prog.funcs[25]? = some f25 := by kernel_rfl
theorem r25 : mapO (resOf prog) f25.results.toList = some [(.c 0 true 8)] := by kernel_rfl
theorem n25 : f25.ntmps = 5 := rfl
def T25 : TE := .fn q25 [(.c 0 true 8)] 5
theorem te25 : TEOK prog 25 T25 := te_fn e25 l25 rfl r25 n25

abbrev q26_1 : List RP := ⟨(some 2), none, false, (.mv (.c (.bool false)))⟩ :: []
abbrev q26_2 : List RP := ⟨(some 1), none, false, (.box (.t 0))⟩ :: q26_1
abbrev q26_3 : List RP := ⟨(some 2), none, false, (.mv (.t 6))⟩ :: []
abbrev q26_4 : List RP := ⟨(some 6), none, false, (.bin .leq (.t 5) (.c (.int .u8 4)))⟩ :: q26_3
abbrev q26_5 : List RP := ⟨(some 5), none, false, (.bin .rem (.t 4) (.c (.int .u8 7)))⟩ :: q26_4
abbrev q26_6 : List RP := ⟨(some 4), none, false, (.ld false 1 (.t 3))⟩ :: q26_5
abbrev q26_7 : List RP := ⟨(some 3), none, false, (.fa 0 (.t 1))⟩ :: q26_6
abbrev q26_8 : RQ := (.seq (.reg q26_7) .ret)
abbrev q26 : RQ := (.seq (.reg q26_2) q26_8)
theorem l26 : ∃ c, f26.body = some c ∧ liteC prog f26.ntmps c = some q26 := ⟨_, rfl, by kernel_rfl⟩
theorem e26 : prog.funcs[26]? = some f26 := by kernel_rfl
theorem r26 : mapO (resOf prog) f26.results.toList = some [(.t 2)] := by kernel_rfl
theorem n26 : f26.ntmps = 7 := rfl
def T26 : TE := .fn q26 [(.t 2)] 7
theorem te26 : TEOK prog 26 T26 := te_fn e26 l26 rfl r26 n26

abbrev q27_1 : List RP := ⟨(some 5), none, false, (.mv (.c (.int .i64 0)))⟩ :: []
abbrev q27_2 : List RP := ⟨(some 4), none, false, (.alloc [(.int .i64 0), (.int .i64 0), (.int .i64 0), (.int .i64 0), (.int .i64 0), (.int .i64 0)])⟩ :: q27_1
abbrev q27_3 : List RP := ⟨(some 3), none, false, (.box (.t 1))⟩ :: q27_2
abbrev q27_4 : List RP := ⟨(some 2), none, false, (.box (.t 0))⟩ :: q27_3
abbrev q27_5 : List RP := ⟨(some 7), none, false, (.mv (.t 16))⟩ :: []
abbrev q27_6 : List RP := ⟨none, none, false, (.st 12 (.t 6) (.t 15))⟩ :: q27_5
abbrev q27_7 : List RP := ⟨(some 6), none, false, (.alloc [.nils, .nils, (.int .u64 0), (.int .i64 0), .nils, .nils, .nils, (.int .i64 0), (.int .i64 0), (.int .i64 0), (.int .i64 0), (.int .i64 0)])⟩ :: q27_6
abbrev q27_8 : List RP := ⟨(some 16), none, false, (.ext (.t 11) 1)⟩ :: q27_7
abbrev q27_9 : List RP := ⟨(some 15), none, false, (.ext (.t 11) 0)⟩ :: q27_8
abbrev q27_10 : List RP := ⟨(some 11), none, false, (.mv (.t 14))⟩ :: q27_9
abbrev q27_11 : List RP := ⟨(some 14), none, false, (.cal 53 [(.t 12), (.t 13)])⟩ :: q27_10
abbrev q27_12 : List RP := ⟨(some 13), none, true, (.ld true 4 (.t 3))⟩ :: q27_11
abbrev q27_13 : List RP := ⟨(some 12), none, true, (.ld true 8 (.t 2))⟩ :: q27_12
abbrev q27_14 : List RP := ⟨(some 18), none, false, (.bin .neq (.t 17) (.c (.int .i64 0)))⟩ :: []
abbrev q27_15 : List RP := ⟨(some 17), none, false, (.mv (.t 7))⟩ :: q27_14
abbrev q27_16 : List RP := ⟨(some 5), none, false, (.mv (.t 20))⟩ :: []
abbrev q27_17 : List RP := ⟨none, none, false, (.st 6 (.t 4) (.t 19))⟩ :: q27_16
abbrev q27_18 : List RP := ⟨(some 20), none, false, (.mv (.t 7))⟩ :: q27_17
abbrev q27_19 : List RP := ⟨(some 19), none, false, (.build [(.int .i64 0), (.int .i64 0), (.int .i64 0), (.int .i64 0), (.int .i64 0), (.int .i64 0)] [])⟩ :: q27_18
abbrev q27_20 : RQ := (.seq (.reg q27_19) .ret)
abbrev q27_21 : RQ := (.cond (.t 18) q27_20 .skip)
abbrev q27_22 : List RP := ⟨none, none, false, (.st 6 (.t 8) (.t 25))⟩ :: []
abbrev q27_23 : List RP := ⟨(some 8), none, false, (.alloc [(.int .i64 0), (.int .i64 0), (.int .i64 0), (.int .i64 0), (.int .i64 0), (.int .i64 0)])⟩ :: q27_22
abbrev q27_24 : List RP := ⟨(some 25), none, false, (.build [(.int .i64 0), (.int .i64 0), (.int .i64 0), (.int .i64 0), (.int .i64 0), (.int .i64 0)] [(0, 1, (.t 24))])⟩ :: q27_23
abbrev q27_25 : List RP := ⟨(some 24), none, false, (.len (.t 23))⟩ :: q27_24
abbrev q27_26 : List RP := ⟨(some 23), none, false, (.ld false 1 (.t 22))⟩ :: q27_25
abbrev q27_27 : List RP := ⟨(some 22), none, false, (.fa 0 (.t 21))⟩ :: q27_26
abbrev q27_28 : List RP := ⟨(some 21), none, false, (.fa 0 (.t 6))⟩ :: q27_27
abbrev q27_29 : List RP := ⟨(some 30), none, false, (.mv (.c (.int .i64 0)))⟩ :: []
abbrev q27_30 : List RP := ⟨(some 29), none, false, (.len (.t 28))⟩ :: q27_29
abbrev q27_31 : List RP := ⟨(some 28), none, false, (.ld false 1 (.t 27))⟩ :: q27_30
abbrev q27_32 : List RP := ⟨(some 27), none, false, (.fa 0 (.t 26))⟩ :: q27_31
abbrev q27_33 : List RP := ⟨(some 26), none, false, (.fa 0 (.t 6))⟩ :: q27_32
abbrev q27_34 : List RP := ⟨(some 31), none, false, (.bin .lss (.t 30) (.t 29))⟩ :: []
abbrev q27_35 : RQ := (.exit 0)
abbrev q27_36 : List RP := ⟨none, none, false, (.st 6 (.t 10) (.t 33))⟩ :: []
abbrev q27_37 : List RP := ⟨(some 10), none, false, (.alloc [(.int .i64 0), (.int .i64 0), (.int .i64 0), (.int .u8 0), (.int .u64 0), (.int .u64 0)])⟩ :: q27_36
abbrev q27_38 : List RP := ⟨(some 33), none, false, (.ld true 6 (.t 32))⟩ :: q27_37
abbrev q27_39 : List RP := ⟨(some 32), none, false, (.ias 6 (.t 28) (.t 30))⟩ :: q27_38
abbrev q27_40 : List RP := ⟨none, none, false, (.st 1 (.t 39) (.t 38))⟩ :: []
abbrev q27_41 : List RP := ⟨(some 39), none, false, (.iaa 6 1 (.t 8) (.t 35))⟩ :: q27_40
abbrev q27_42 : List RP := ⟨(some 38), none, false, (.bin .add (.t 37) (.c (.int .i64 1)))⟩ :: q27_41
abbrev q27_43 : List RP := ⟨(some 37), none, false, (.ld false 1 (.t 36))⟩ :: q27_42
abbrev q27_44 : List RP := ⟨(some 36), none, false, (.iaa 6 1 (.t 8) (.t 35))⟩ :: q27_43
abbrev q27_45 : List RP := ⟨(some 35), none, false, (.ld false 1 (.t 34))⟩ :: q27_44
abbrev q27_46 : List RP := ⟨(some 34), none, false, (.fa 3 (.t 10))⟩ :: q27_45
abbrev q27_47 : RQ := (.reg q27_46)
abbrev q27_48 : List RP := ⟨(some 30), none, false, (.mv (.t 40))⟩ :: []
abbrev q27_49 : List RP := ⟨(some 40), none, false, (.bin .add (.t 30) (.c (.int .i64 1)))⟩ :: q27_48
abbrev q27_50 : RQ := (.reg q27_49)
abbrev q27_51 : RQ := (.seq (.block 1 (.seq (.reg q27_39) q27_47)) q27_50)
abbrev q27_52 : RQ := (.seq (.cond (.t 31) .skip q27_35) q27_51)
abbrev q27_53 : RQ := (.seq (.reg q27_34) q27_52)
abbrev q27_54 : RQ := (.block 0 (.loop q27_53))
abbrev q27_55 : List RP := ⟨(some 5), none, false, (.mv (.c (.int .i64 0)))⟩ :: []
abbrev q27_56 : List RP := ⟨none, none, false, (.st 6 (.t 4) (.t 41))⟩ :: q27_55
abbrev q27_57 : List RP := ⟨(some 41), none, false, (.ld true 6 (.t 8))⟩ :: q27_56
abbrev q27_58 : RQ := (.seq (.reg q27_57) .ret)
abbrev q27_59 : RQ := (.seq (.seq (.reg q27_33) q27_54) q27_58)
abbrev q27_60 : RQ := (.seq (.reg q27_28) q27_59)
abbrev q27_61 : RQ := (.seq (.seq (.reg q27_15) q27_21) q27_60)
abbrev q27_62 : RQ := (.seq (.reg q27_13) q27_61)
abbrev q27 : RQ := (.seq (.reg q27_4) q27_62)
theorem l27 : ∃ c, f27.body = some c ∧ liteC prog f27.ntmps c = some q27 := ⟨_, rfl, by kernel_rfl⟩
theorem e27 : prog.funcs[27]? = some f27 := by kernel_rfl
theorem r27 : mapO (resOf prog) f27.results.toList = some [(.c 4 true 6), (.t 5)] := by kernel_rfl
theorem n27 : f27.ntmps = 42 := rfl
def T27 : TE := .fn q27 [(.c 4 true 6), (.t 5)] 42
theorem te27 : TEOK prog 27 T27 := te_fn e27 l27 rfl r27 n27

abbrev q28_1 : List RP := ⟨(some 12), none, false, (.mv (.c (.int .i64 0)))⟩ :: []
abbrev q28_2 : List RP := ⟨(some 11), none, false, (.mv (.c (.int .i64 0)))⟩ :: q28_1
abbrev q28_3 : List RP := ⟨(some 10), none, false, (.alloc [.nils, .nils, (.int .u64 0), (.int .i64 0)])⟩ :: q28_2
abbrev q28_4 : List RP := ⟨(some 6), none, false, (.box (.t 1))⟩ :: q28_3
abbrev q28_5 : List RP := ⟨(some 5), none, false, (.box (.t 0))⟩ :: q28_4
abbrev q28_6 : List RP := ⟨(some 14), none, false, (.mv (.t 21))⟩ :: []
abbrev q28_7 : List RP := ⟨none, none, false, (.st 12 (.t 13) (.t 20))⟩ :: q28_6
abbrev q28_8 : List RP := ⟨(some 13), none, false, (.alloc [.nils, .nils, (.int .u64 0), (.int .i64 0), .nils, .nils, .nils, (.int .i64 0), (.int .i64 0), (.int .i64 0), (.int .i64 0), (.int .i64 0)])⟩ :: q28_7
abbrev q28_9 : List RP := ⟨(some 21), none, false, (.ext (.t 16) 1)⟩ :: q28_8
abbrev q28_10 : List RP := ⟨(some 20), none, false, (.ext (.t 16) 0)⟩ :: q28_9
abbrev q28_11 : List RP := ⟨(some 16), none, false, (.mv (.t 19))⟩ :: q28_10
abbrev q28_12 : List RP := ⟨(some 19), none, false, (.cal 53 [(.t 17), (.t 18)])⟩ :: q28_11
abbrev q28_13 : List RP := ⟨(some 18), none, true, (.ld true 4 (.t 6))⟩ :: q28_12
abbrev q28_14 : List RP := ⟨(some 17), none, true, (.ld true 8 (.t 5))⟩ :: q28_13
abbrev q28_15 : List RP := ⟨(some 23), none, false, (.bin .neq (.t 22) (.c (.int .i64 0)))⟩ :: []
abbrev q28_16 : List RP := ⟨(some 22), none, false, (.mv (.t 14))⟩ :: q28_15
abbrev q28_17 : List RP := ⟨(some 12), none, false, (.mv (.t 25))⟩ :: []
abbrev q28_18 : List RP := ⟨(some 11), none, false, (.mv (.c (.int .i64 0)))⟩ :: q28_17
abbrev q28_19 : List RP := ⟨none, none, false, (.st 4 (.t 10) (.t 24))⟩ :: q28_18
abbrev q28_20 : List RP := ⟨(some 25), none, false, (.mv (.t 14))⟩ :: q28_19
abbrev q28_21 : List RP := ⟨(some 24), none, false, (.build [.nils, .nils, (.int .u64 0), (.int .i64 0)] [])⟩ :: q28_20
abbrev q28_22 : RQ := (.seq (.reg q28_21) .ret)
abbrev q28_23 : RQ := (.cond (.t 23) q28_22 .skip)
abbrev q28_24 : List RP := ⟨(some 34), none, false, (.pick (.t 31) (.c (.bool true)) (.t 33))⟩ :: []
abbrev q28_25 : List RP := ⟨(some 33), (some (31, false)), false, (.bin .gtr (.t 32) (.c (.int .u64 4611686018427387904)))⟩ :: q28_24
abbrev q28_26 : List RP := ⟨(some 32), (some (31, false)), false, (.mv (.t 4))⟩ :: q28_25
abbrev q28_27 : List RP := ⟨(some 31), none, false, (.mv (.t 30))⟩ :: q28_26
abbrev q28_28 : List RP := ⟨(some 30), none, false, (.not (.t 29))⟩ :: q28_27
abbrev q28_29 : List RP := ⟨(some 29), none, false, (.cal 54 [(.t 26), (.t 27), (.t 28)])⟩ :: q28_28
abbrev q28_30 : List RP := ⟨(some 28), none, true, (.mv (.t 3))⟩ :: q28_29
abbrev q28_31 : List RP := ⟨(some 27), none, true, (.mv (.t 2))⟩ :: q28_30
abbrev q28_32 : List RP := ⟨(some 26), none, true, (.ld true 12 (.t 13))⟩ :: q28_31
abbrev q28_33 : List RP := ⟨(some 12), none, false, (.mv (.c (.int .i64 2)))⟩ :: []
abbrev q28_34 : List RP := ⟨(some 11), none, false, (.mv (.c (.int .i64 0)))⟩ :: q28_33
abbrev q28_35 : List RP := ⟨none, none, false, (.st 4 (.t 10) (.t 35))⟩ :: q28_34
abbrev q28_36 : List RP := ⟨(some 35), none, false, (.build [.nils, .nils, (.int .u64 0), (.int .i64 0)] [])⟩ :: q28_35
abbrev q28_37 : RQ := (.seq (.reg q28_36) .ret)
abbrev q28_38 : RQ := (.cond (.t 34) q28_37 .skip)
abbrev q28_39 : List RP := ⟨(some 40), none, false, (.bin .eql (.t 39) (.c (.int .i64 64)))⟩ :: []
abbrev q28_40 : List RP := ⟨(some 39), none, false, (.len (.t 38))⟩ :: q28_39
abbrev q28_41 : List RP := ⟨(some 38), none, false, (.ld false 1 (.t 37))⟩ :: q28_40
abbrev q28_42 : List RP := ⟨(some 37), none, false, (.fa 0 (.t 36))⟩ :: q28_41
abbrev q28_43 : List RP := ⟨(some 36), none, false, (.fa 0 (.t 13))⟩ :: q28_42
abbrev q28_44 : List RP := ⟨(some 12), none, false, (.mv (.c (.int .i64 4)))⟩ :: []
abbrev q28_45 : List RP := ⟨(some 11), none, false, (.mv (.c (.int .i64 0)))⟩ :: q28_44
abbrev q28_46 : List RP := ⟨none, none, false, (.st 4 (.t 10) (.t 41))⟩ :: q28_45
abbrev q28_47 : List RP := ⟨(some 41), none, false, (.build [.nils, .nils, (.int .u64 0), (.int .i64 0)] [])⟩ :: q28_46
abbrev q28_48 : RQ := (.seq (.reg q28_47) .ret)
abbrev q28_49 : RQ := (.cond (.t 40) q28_48 .skip)
abbrev q28_50 : List RP := ⟨(some 48), none, false, (.bin .eql (.t 45) (.t 47))⟩ :: []
abbrev q28_51 : List RP := ⟨(some 47), none, false, (.ld false 1 (.t 46))⟩ :: q28_50
abbrev q28_52 : List RP := ⟨(some 46), none, false, (.fa 5 (.t 5))⟩ :: q28_51
abbrev q28_53 : List RP := ⟨(some 45), none, false, (.len (.t 44))⟩ :: q28_52
abbrev q28_54 : List RP := ⟨(some 44), none, false, (.ld false 1 (.t 43))⟩ :: q28_53
abbrev q28_55 : List RP := ⟨(some 43), none, false, (.fa 1 (.t 42))⟩ :: q28_54
abbrev q28_56 : List RP := ⟨(some 42), none, false, (.fa 0 (.t 13))⟩ :: q28_55
abbrev q28_57 : List RP := ⟨(some 12), none, false, (.mv (.c (.int .i64 9)))⟩ :: []
abbrev q28_58 : List RP := ⟨(some 11), none, false, (.mv (.c (.int .i64 0)))⟩ :: q28_57
abbrev q28_59 : List RP := ⟨none, none, false, (.st 4 (.t 10) (.t 49))⟩ :: q28_58
abbrev q28_60 : List RP := ⟨(some 49), none, false, (.build [.nils, .nils, (.int .u64 0), (.int .i64 0)] [])⟩ :: q28_59
abbrev q28_61 : RQ := (.seq (.reg q28_60) .ret)
abbrev q28_62 : RQ := (.cond (.t 48) q28_61 .skip)
abbrev q28_63 : List RP := ⟨(some 14), none, false, (.mv (.t 61))⟩ :: []
abbrev q28_64 : List RP := ⟨none, none, false, (.st 2 (.t 63) (.t 60))⟩ :: q28_63
abbrev q28_65 : List RP := ⟨(some 63), none, false, (.fa 2 (.t 62))⟩ :: q28_64
abbrev q28_66 : List RP := ⟨(some 62), none, false, (.fa 0 (.t 13))⟩ :: q28_65
abbrev q28_67 : List RP := ⟨(some 61), none, false, (.ext (.t 50) 1)⟩ :: q28_66
abbrev q28_68 : List RP := ⟨(some 60), none, false, (.ext (.t 50) 0)⟩ :: q28_67
abbrev q28_69 : List RP := ⟨(some 50), none, false, (.mv (.t 59))⟩ :: q28_68
abbrev q28_70 : List RP := ⟨(some 59), none, false, (.cal 19 [(.t 53), (.t 55), (.t 57), (.t 58)])⟩ :: q28_69
abbrev q28_71 : List RP := ⟨(some 58), none, true, (.mv (.t 4))⟩ :: q28_70
abbrev q28_72 : List RP := ⟨(some 57), none, true, (.ld false 1 (.t 56))⟩ :: q28_71
abbrev q28_73 : List RP := ⟨(some 56), none, false, (.fa 6 (.t 5))⟩ :: q28_72
abbrev q28_74 : List RP := ⟨(some 55), none, true, (.ld false 1 (.t 54))⟩ :: q28_73
abbrev q28_75 : List RP := ⟨(some 54), none, false, (.fa 7 (.t 5))⟩ :: q28_74
abbrev q28_76 : List RP := ⟨(some 53), none, true, (.ld true 2 (.t 52))⟩ :: q28_75
abbrev q28_77 : List RP := ⟨(some 52), none, false, (.fa 2 (.t 51))⟩ :: q28_76
abbrev q28_78 : List RP := ⟨(some 51), none, false, (.fa 0 (.t 13))⟩ :: q28_77
abbrev q28_79 : List RP := ⟨(some 65), none, false, (.bin .neq (.t 64) (.c (.int .i64 0)))⟩ :: []
abbrev q28_80 : List RP := ⟨(some 64), none, false, (.mv (.t 14))⟩ :: q28_79
abbrev q28_81 : List RP := ⟨(some 12), none, false, (.mv (.t 67))⟩ :: []
abbrev q28_82 : List RP := ⟨(some 11), none, false, (.mv (.c (.int .i64 0)))⟩ :: q28_81
abbrev q28_83 : List RP := ⟨none, none, false, (.st 4 (.t 10) (.t 66))⟩ :: q28_82
abbrev q28_84 : List RP := ⟨(some 67), none, false, (.mv (.t 14))⟩ :: q28_83
abbrev q28_85 : List RP := ⟨(some 66), none, false, (.build [.nils, .nils, (.int .u64 0), (.int .i64 0)] [])⟩ :: q28_84
abbrev q28_86 : RQ := (.seq (.reg q28_85) .ret)
abbrev q28_87 : RQ := (.cond (.t 65) q28_86 .skip)
abbrev q28_88 : List RP := ⟨(some 14), none, false, (.mv (.t 79))⟩ :: []
abbrev q28_89 : List RP := ⟨none, none, false, (.st 6 (.t 15) (.t 78))⟩ :: q28_88
abbrev q28_90 : List RP := ⟨(some 15), none, false, (.alloc [(.int .i64 0), (.int .i64 0), (.int .i64 0), (.int .u8 0), (.int .u64 0), (.int .u64 0)])⟩ :: q28_89
abbrev q28_91 : List RP := ⟨(some 79), none, false, (.ext (.t 68) 1)⟩ :: q28_90
abbrev q28_92 : List RP := ⟨(some 78), none, false, (.ext (.t 68) 0)⟩ :: q28_91
abbrev q28_93 : List RP := ⟨(some 68), none, false, (.mv (.t 77))⟩ :: q28_92
abbrev q28_94 : List RP := ⟨(some 77), none, false, (.cal 16 [(.t 73), (.t 74), (.t 75), (.t 76)])⟩ :: q28_93
abbrev q28_95 : List RP := ⟨(some 76), none, true, (.mv (.t 4))⟩ :: q28_94
abbrev q28_96 : List RP := ⟨(some 75), none, true, (.mv (.t 3))⟩ :: q28_95
abbrev q28_97 : List RP := ⟨(some 74), none, true, (.mv (.t 2))⟩ :: q28_96
abbrev q28_98 : List RP := ⟨(some 73), none, true, (.bin .add (.t 72) (.c (.int .i64 1)))⟩ :: q28_97
abbrev q28_99 : List RP := ⟨(some 72), none, false, (.len (.t 71))⟩ :: q28_98
abbrev q28_100 : List RP := ⟨(some 71), none, false, (.ld false 1 (.t 70))⟩ :: q28_99
abbrev q28_101 : List RP := ⟨(some 70), none, false, (.fa 0 (.t 69))⟩ :: q28_100
abbrev q28_102 : List RP := ⟨(some 69), none, false, (.fa 0 (.t 13))⟩ :: q28_101
abbrev q28_103 : List RP := ⟨(some 81), none, false, (.bin .neq (.t 80) (.c (.int .i64 0)))⟩ :: []
abbrev q28_104 : List RP := ⟨(some 80), none, false, (.mv (.t 14))⟩ :: q28_103
abbrev q28_105 : List RP := ⟨(some 12), none, false, (.mv (.t 83))⟩ :: []
abbrev q28_106 : List RP := ⟨(some 11), none, false, (.mv (.c (.int .i64 0)))⟩ :: q28_105
abbrev q28_107 : List RP := ⟨none, none, false, (.st 4 (.t 10) (.t 82))⟩ :: q28_106
abbrev q28_108 : List RP := ⟨(some 83), none, false, (.mv (.t 14))⟩ :: q28_107
abbrev q28_109 : List RP := ⟨(some 82), none, false, (.build [.nils, .nils, (.int .u64 0), (.int .i64 0)] [])⟩ :: q28_108
abbrev q28_110 : RQ := (.seq (.reg q28_109) .ret)
abbrev q28_111 : RQ := (.cond (.t 81) q28_110 .skip)
abbrev q28_112 : List RP := ⟨none, none, false, (.st 1 (.t 91) (.t 89))⟩ :: []
abbrev q28_113 : List RP := ⟨(some 91), none, false, (.fa 0 (.t 90))⟩ :: q28_112
abbrev q28_114 : List RP := ⟨(some 90), none, false, (.fa 0 (.t 13))⟩ :: q28_113
abbrev q28_115 : List RP := ⟨(some 89), none, false, (.app 6 48 [(.int .i64 0), (.int .i64 0), (.int .i64 0), (.int .u8 0), (.int .u64 0), (.int .u64 0)] (.t 86) (.t 88))⟩ :: q28_114
abbrev q28_116 : List RP := ⟨(some 88), none, true, (.bslice 6 1 [(.int .i64 0), (.int .i64 0), (.int .i64 0), (.int .u8 0), (.int .u64 0), (.int .u64 0)] [(0, (.t 87))])⟩ :: q28_115
abbrev q28_117 : List RP := ⟨(some 87), none, false, (.ld true 6 (.t 15))⟩ :: q28_116
abbrev q28_118 : List RP := ⟨(some 86), none, false, (.ld false 1 (.t 85))⟩ :: q28_117
abbrev q28_119 : List RP := ⟨(some 85), none, false, (.fa 0 (.t 84))⟩ :: q28_118
abbrev q28_120 : List RP := ⟨(some 84), none, false, (.fa 0 (.t 13))⟩ :: q28_119
abbrev q28_121 : List RP := ⟨none, none, false, (.st 1 (.t 100) (.t 98))⟩ :: []
abbrev q28_122 : List RP := ⟨(some 100), none, false, (.fa 1 (.t 99))⟩ :: q28_121
abbrev q28_123 : List RP := ⟨(some 99), none, false, (.fa 0 (.t 13))⟩ :: q28_122
abbrev q28_124 : List RP := ⟨(some 98), none, false, (.app 1 8 [(.int .i64 0)] (.t 94) (.t 97))⟩ :: q28_123
abbrev q28_125 : List RP := ⟨(some 97), none, true, (.bslice 1 1 [(.int .i64 0)] [(0, (.t 96))])⟩ :: q28_124
abbrev q28_126 : List RP := ⟨(some 96), none, false, (.ld false 1 (.t 95))⟩ :: q28_125
abbrev q28_127 : List RP := ⟨(some 95), none, false, (.fa 0 (.t 15))⟩ :: q28_126
abbrev q28_128 : List RP := ⟨(some 94), none, false, (.ld false 1 (.t 93))⟩ :: q28_127
abbrev q28_129 : List RP := ⟨(some 93), none, false, (.fa 1 (.t 92))⟩ :: q28_128
abbrev q28_130 : List RP := ⟨(some 92), none, false, (.fa 0 (.t 13))⟩ :: q28_129
abbrev q28_131 : List (Bool × RP) := (false, ⟨(some 12), none, false, (.mv (.c (.int .i64 0)))⟩) :: []
abbrev q28_132 : List (Bool × RP) := (false, ⟨(some 11), none, false, (.mv (.t 104))⟩) :: q28_131
abbrev q28_133 : List (Bool × RP) := (false, ⟨none, none, false, (.st 4 (.t 10) (.t 102))⟩) :: q28_132
abbrev q28_134 : List (Bool × RP) := (true, ⟨(some 104), none, false, (.ld false 1 (.t 103))⟩) :: q28_133
abbrev q28_135 : List (Bool × RP) := (true, ⟨(some 103), none, false, (.fa 0 (.t 15))⟩) :: q28_134
abbrev q28_136 : List (Bool × RP) := (false, ⟨(some 102), none, false, (.ld true 4 (.t 101))⟩) :: q28_135
abbrev q28_137 : List (Bool × RP) := (false, ⟨(some 101), none, false, (.fa 0 (.t 13))⟩) :: q28_136
abbrev q28_138 : RQ := (.seq (.drw q28_137 []) .ret)
abbrev q28_139 : RQ := (.seq (.reg q28_130) q28_138)
abbrev q28_140 : RQ := (.seq (.reg q28_120) q28_139)
abbrev q28_141 : RQ := (.seq (.seq (.reg q28_104) q28_111) q28_140)
abbrev q28_142 : RQ := (.seq (.reg q28_102) q28_141)
abbrev q28_143 : RQ := (.seq (.seq (.reg q28_80) q28_87) q28_142)
abbrev q28_144 : RQ := (.seq (.reg q28_78) q28_143)
abbrev q28_145 : RQ := (.seq (.seq (.reg q28_56) q28_62) q28_144)
abbrev q28_146 : RQ := (.seq (.seq (.reg q28_43) q28_49) q28_145)
abbrev q28_147 : RQ := (.seq (.seq (.reg q28_32) q28_38) q28_146)
abbrev q28_148 : RQ := (.seq (.seq (.reg q28_16) q28_23) q28_147)
abbrev q28_149 : RQ := (.seq (.reg q28_14) q28_148)
abbrev q28 : RQ := (.seq (.reg q28_5) q28_149)
theorem l28 : ∃ c, f28.body = some c ∧ liteC prog f28.ntmps c = some q28 := ⟨_, rfl, by kernel_rfl⟩
theorem e28 : prog.funcs[28]? = some f28 := by kernel_rfl
theorem r28 : mapO (resOf prog) f28.results.toList = some [(.c 10 true 4), (.t 11), (.t 12)] := by kernel_rfl
theorem n28 : f28.ntmps = 105 := rfl
def T28 : TE := .fn q28 [(.c 10 true 4), (.t 11), (.t 12)] 105
theorem te28 : TEOK prog 28 T28 := te_fn e28 l28 rfl r28 n28

abbrev q29_1 : List RP := ⟨(some 4), none, false, (.mv (.c (.int .i64 0)))⟩ :: []
abbrev q29_2 : List RP := ⟨(some 3), none, false, (.box (.t 1))⟩ :: q29_1
abbrev q29_3 : List RP := ⟨(some 2), none, false, (.box (.t 0))⟩ :: q29_2
abbrev q29_4 : List RP := ⟨(some 4), none, false, (.mv (.t 8))⟩ :: []
abbrev q29_5 : List RP := ⟨(some 8), none, false, (.cal 55 [(.t 7)])⟩ :: q29_4
abbrev q29_6 : List RP := ⟨(some 7), none, true, (.build [.nils, .nils, (.int .u64 0), (.int .i64 0), .nils, .nils, .nils, (.int .i64 0), (.int .i64 0), (.int .i64 0), (.int .i64 0), (.int .i64 0)] [(0, 4, (.t 5)), (4, 8, (.t 6))])⟩ :: q29_5
abbrev q29_7 : List RP := ⟨(some 6), none, false, (.ld true 8 (.t 2))⟩ :: q29_6
abbrev q29_8 : List RP := ⟨(some 5), none, false, (.ld true 4 (.t 3))⟩ :: q29_7
abbrev q29_9 : RQ := (.seq (.reg q29_8) .ret)
abbrev q29 : RQ := (.seq (.reg q29_3) q29_9)
theorem l29 : ∃ c, f29.body = some c ∧ liteC prog f29.ntmps c = some q29 := ⟨_, rfl, by kernel_rfl⟩
theorem e29 : prog.funcs[29]? = some f29 := by kernel_rfl
theorem r29 : mapO (resOf prog) f29.results.toList = some [(.t 4)] := by kernel_rfl
theorem n29 : f29.ntmps = 9 := rfl
def T29 : TE := .fn q29 [(.t 4)] 9
theorem te29 : TEOK prog 29 T29 := te_fn e29 l29 rfl r29 n29

abbrev q31_1 : List RP := ⟨(some 2), none, false, (.mv (.c (.int .i64 0)))⟩ :: []
abbrev q31_2 : List RP := ⟨(some 1), none, false, (.box (.t 0))⟩ :: q31_1
abbrev q31_3 : List RP := ⟨(some 32), none, false, (.pick (.t 28) (.c (.bool true)) (.t 31))⟩ :: []
abbrev q31_4 : List RP := ⟨(some 31), (some (28, false)), false, (.not (.t 30))⟩ :: q31_3
abbrev q31_5 : List RP := ⟨(some 30), (some (28, false)), false, (.cal 57 [(.t 29)])⟩ :: q31_4
abbrev q31_6 : List RP := ⟨(some 29), (some (28, false)), true, (.ld true 6 (.t 1))⟩ :: q31_5
abbrev q31_7 : List RP := ⟨(some 28), none, false, (.mv (.t 27))⟩ :: q31_6
abbrev q31_8 : List RP := ⟨(some 27), none, false, (.pick (.t 23) (.c (.bool true)) (.t 26))⟩ :: q31_7
abbrev q31_9 : List RP := ⟨(some 26), (some (23, false)), false, (.bin .gtr (.t 25) (.c (.int .u64 4611686018427387904)))⟩ :: q31_8
abbrev q31_10 : List RP := ⟨(some 25), (some (23, false)), false, (.ld false 1 (.t 24))⟩ :: q31_9
abbrev q31_11 : List RP := ⟨(some 24), (some (23, false)), false, (.fa 4 (.t 1))⟩ :: q31_10
abbrev q31_12 : List RP := ⟨(some 23), none, false, (.mv (.t 22))⟩ :: q31_11
abbrev q31_13 : List RP := ⟨(some 22), none, false, (.pick (.t 17) (.c (.bool true)) (.t 21))⟩ :: q31_12
abbrev q31_14 : List RP := ⟨(some 21), (some (17, false)), false, (.not (.t 20))⟩ :: q31_13
abbrev q31_15 : List RP := ⟨(some 20), (some (17, false)), false, (.cal 47 [(.t 19)])⟩ :: q31_14
abbrev q31_16 : List RP := ⟨(some 19), (some (17, false)), true, (.ld false 1 (.t 18))⟩ :: q31_15
abbrev q31_17 : List RP := ⟨(some 18), (some (17, false)), false, (.fa 3 (.t 1))⟩ :: q31_16
abbrev q31_18 : List RP := ⟨(some 17), none, false, (.mv (.t 16))⟩ :: q31_17
abbrev q31_19 : List RP := ⟨(some 16), none, false, (.pick (.t 8) (.c (.bool true)) (.t 15))⟩ :: q31_18
abbrev q31_20 : List RP := ⟨(some 15), (some (8, false)), false, (.not (.t 14))⟩ :: q31_19
abbrev q31_21 : List RP := ⟨(some 14), (some (8, false)), false, (.cal 50 [(.c (.int .i64 0)), (.c (.int .i64 2)), (.t 13)])⟩ :: q31_20
abbrev q31_22 : List RP := ⟨(some 13), (some (8, false)), true, (.bslice 1 2 [(.int .i64 0)] [(0, (.t 10)), (1, (.t 12))])⟩ :: q31_21
abbrev q31_23 : List RP := ⟨(some 12), (some (8, false)), false, (.ld false 1 (.t 11))⟩ :: q31_22
abbrev q31_24 : List RP := ⟨(some 11), (some (8, false)), false, (.fa 2 (.t 1))⟩ :: q31_23
abbrev q31_25 : List RP := ⟨(some 10), (some (8, false)), false, (.ld false 1 (.t 9))⟩ :: q31_24
abbrev q31_26 : List RP := ⟨(some 9), (some (8, false)), false, (.fa 1 (.t 1))⟩ :: q31_25
abbrev q31_27 : List RP := ⟨(some 8), none, false, (.mv (.t 7))⟩ :: q31_26
abbrev q31_28 : List RP := ⟨(some 7), none, false, (.not (.t 6))⟩ :: q31_27
abbrev q31_29 : List RP := ⟨(some 6), none, false, (.cal 50 [(.c (.int .i64 1)), (.c (.int .i64 64)), (.t 5)])⟩ :: q31_28
abbrev q31_30 : List RP := ⟨(some 5), none, true, (.bslice 1 1 [(.int .i64 0)] [(0, (.t 4))])⟩ :: q31_29
abbrev q31_31 : List RP := ⟨(some 4), none, false, (.ld false 1 (.t 3))⟩ :: q31_30
abbrev q31_32 : List RP := ⟨(some 3), none, false, (.fa 0 (.t 1))⟩ :: q31_31
abbrev q31_33 : List RP := ⟨(some 2), none, false, (.mv (.c (.int .i64 8)))⟩ :: []
abbrev q31_34 : RQ := (.seq (.reg q31_33) .ret)
abbrev q31_35 : RQ := (.cond (.t 32) q31_34 .skip)
abbrev q31_36 : List RP := ⟨(some 2), none, false, (.mv (.c (.int .i64 0)))⟩ :: []
abbrev q31_37 : RQ := (.seq (.reg q31_36) .ret)
abbrev q31_38 : RQ := (.seq (.seq (.reg q31_32) q31_35) q31_37)
abbrev q31 : RQ := (.seq (.reg q31_2) q31_38)
theorem l31 : ∃ c, f31.body = some c ∧ liteC prog f31.ntmps c = some q31 := ⟨_, rfl, by kernel_rfl⟩
theorem e31 : prog.funcs[31]? = some f31 := by kernel_rfl
theorem r31 : mapO (resOf prog) f31.results.toList = some [(.t 2)] := by kernel_rfl
theorem n31 : f31.ntmps = 33 := rfl
def T31 : TE := .fn q31 [(.t 2)] 33
theorem te31 : TEOK prog 31 T31 := te_fn e31 l31 rfl r31 n31

abbrev q42_1 : List RP := ⟨(some 2), none, false, (.mv (.c (.bool false)))⟩ :: []
abbrev q42_2 : List RP := ⟨(some 1), none, false, (.box (.t 0))⟩ :: q42_1
abbrev q42_3 : List RP := ⟨(some 21), none, false, (.pick (.t 15) (.c (.bool true)) (.t 20))⟩ :: []
abbrev q42_4 : List RP := ⟨(some 20), (some (15, false)), false, (.not (.t 19))⟩ :: q42_3
abbrev q42_5 : List RP := ⟨(some 19), (some (15, false)), false, (.cal 69 [(.t 18), (.c (.int .i64 3))])⟩ :: q42_4
abbrev q42_6 : List RP := ⟨(some 18), (some (15, false)), true, (.len (.t 17))⟩ :: q42_5
abbrev q42_7 : List RP := ⟨(some 17), (some (15, false)), false, (.ld false 1 (.t 16))⟩ :: q42_6
abbrev q42_8 : List RP := ⟨(some 16), (some (15, false)), false, (.fa 2 (.t 1))⟩ :: q42_7
abbrev q42_9 : List RP := ⟨(some 15), none, false, (.mv (.t 14))⟩ :: q42_8
abbrev q42_10 : List RP := ⟨(some 14), none, false, (.pick (.t 8) (.c (.bool true)) (.t 13))⟩ :: q42_9
abbrev q42_11 : List RP := ⟨(some 13), (some (8, false)), false, (.not (.t 12))⟩ :: q42_10
abbrev q42_12 : List RP := ⟨(some 12), (some (8, false)), false, (.cal 69 [(.t 11), (.c (.int .i64 3))])⟩ :: q42_11
abbrev q42_13 : List RP := ⟨(some 11), (some (8, false)), true, (.len (.t 10))⟩ :: q42_12
abbrev q42_14 : List RP := ⟨(some 10), (some (8, false)), false, (.ld false 1 (.t 9))⟩ :: q42_13
abbrev q42_15 : List RP := ⟨(some 9), (some (8, false)), false, (.fa 1 (.t 1))⟩ :: q42_14
abbrev q42_16 : List RP := ⟨(some 8), none, false, (.mv (.t 7))⟩ :: q42_15
abbrev q42_17 : List RP := ⟨(some 7), none, false, (.not (.t 6))⟩ :: q42_16
abbrev q42_18 : List RP := ⟨(some 6), none, false, (.cal 69 [(.t 5), (.c (.int .i64 3))])⟩ :: q42_17
abbrev q42_19 : List RP := ⟨(some 5), none, true, (.len (.t 4))⟩ :: q42_18
abbrev q42_20 : List RP := ⟨(some 4), none, false, (.ld false 1 (.t 3))⟩ :: q42_19
abbrev q42_21 : List RP := ⟨(some 3), none, false, (.fa 0 (.t 1))⟩ :: q42_20
abbrev q42_22 : List RP := ⟨(some 2), none, false, (.mv (.c (.bool false)))⟩ :: []
abbrev q42_23 : RQ := (.seq (.reg q42_22) .ret)
abbrev q42_24 : RQ := (.cond (.t 21) q42_23 .skip)
abbrev q42_25 : List RP := ⟨(some 2), none, false, (.mv (.t 44))⟩ :: []
abbrev q42_26 : List RP := ⟨(some 44), none, false, (.pick (.t 40) (.t 43) (.c (.bool false)))⟩ :: q42_25
abbrev q42_27 : List RP := ⟨(some 43), (some (40, true)), false, (.cal 69 [(.t 42), (.c (.int .i64 64))])⟩ :: q42_26
abbrev q42_28 : List RP := ⟨(some 42), (some (40, true)), true, (.ld false 1 (.t 41))⟩ :: q42_27
abbrev q42_29 : List RP := ⟨(some 41), (some (40, true)), false, (.fa 7 (.t 1))⟩ :: q42_28
abbrev q42_30 : List RP := ⟨(some 40), none, false, (.mv (.t 39))⟩ :: q42_29
abbrev q42_31 : List RP := ⟨(some 39), none, false, (.pick (.t 35) (.t 38) (.c (.bool false)))⟩ :: q42_30
abbrev q42_32 : List RP := ⟨(some 38), (some (35, true)), false, (.cal 69 [(.t 37), (.c (.int .i64 16))])⟩ :: q42_31
abbrev q42_33 : List RP := ⟨(some 37), (some (35, true)), true, (.ld false 1 (.t 36))⟩ :: q42_32
abbrev q42_34 : List RP := ⟨(some 36), (some (35, true)), false, (.fa 6 (.t 1))⟩ :: q42_33
abbrev q42_35 : List RP := ⟨(some 35), none, false, (.mv (.t 34))⟩ :: q42_34
abbrev q42_36 : List RP := ⟨(some 34), none, false, (.pick (.t 30) (.t 33) (.c (.bool false)))⟩ :: q42_35
abbrev q42_37 : List RP := ⟨(some 33), (some (30, true)), false, (.cal 69 [(.t 32), (.c (.int .i64 8))])⟩ :: q42_36
abbrev q42_38 : List RP := ⟨(some 32), (some (30, true)), true, (.ld false 1 (.t 31))⟩ :: q42_37
abbrev q42_39 : List RP := ⟨(some 31), (some (30, true)), false, (.fa 5 (.t 1))⟩ :: q42_38
abbrev q42_40 : List RP := ⟨(some 30), none, false, (.mv (.t 29))⟩ :: q42_39
abbrev q42_41 : List RP := ⟨(some 29), none, false, (.pick (.t 25) (.t 28) (.c (.bool false)))⟩ :: q42_40
abbrev q42_42 : List RP := ⟨(some 28), (some (25, true)), false, (.cal 69 [(.t 27), (.c (.int .i64 8))])⟩ :: q42_41
abbrev q42_43 : List RP := ⟨(some 27), (some (25, true)), true, (.ld false 1 (.t 26))⟩ :: q42_42
abbrev q42_44 : List RP := ⟨(some 26), (some (25, true)), false, (.fa 4 (.t 1))⟩ :: q42_43
abbrev q42_45 : List RP := ⟨(some 25), none, false, (.mv (.t 24))⟩ :: q42_44
abbrev q42_46 : List RP := ⟨(some 24), none, false, (.cal 69 [(.t 23), (.c (.int .i64 8))])⟩ :: q42_45
abbrev q42_47 : List RP := ⟨(some 23), none, true, (.ld false 1 (.t 22))⟩ :: q42_46
abbrev q42_48 : List RP := ⟨(some 22), none, false, (.fa 3 (.t 1))⟩ :: q42_47
abbrev q42_49 : RQ := (.seq (.reg q42_48) .ret)
abbrev q42_50 : RQ := (.seq (.seq (.reg q42_21) q42_24) q42_49)
abbrev q42 : RQ := (.seq (.reg q42_2) q42_50)
theorem l42 : ∃ c, f42.body = some c ∧ liteC prog f42.ntmps c = some q42 := ⟨_, rfl, by kernel_rfl⟩
theorem e42 : prog.funcs[42]? = some f42 := by kernel_rfl
theorem r42 : mapO (resOf prog) f42.results.toList = some [(.t 2)] := by kernel_rfl
theorem n42 : f42.ntmps = 45 := rfl
def T42 : TE := .fn q42 [(.t 2)] 45
theorem te42 : TEOK prog 42 T42 := te_fn e42 l42 rfl r42 n42

abbrev q44_1 : List RP := ⟨(some 6), none, false, (.mv (.c (.int .i64 0)))⟩ :: []
abbrev q44_2 : List RP := ⟨(some 5), none, false, (.mv (.c (.int .i64 0)))⟩ :: q44_1
abbrev q44_3 : List RP := ⟨(some 4), none, false, (.alloc [.nils, .nils, (.int .u64 0), (.int .i64 0)])⟩ :: q44_2
abbrev q44_4 : List RP := ⟨(some 3), none, false, (.box (.t 1))⟩ :: q44_3
abbrev q44_5 : List RP := ⟨(some 2), none, false, (.box (.t 0))⟩ :: q44_4
abbrev q44_6 : List RP := ⟨(some 7), none, false, (.mv (.t 13))⟩ :: []
abbrev q44_7 : List RP := ⟨(some 13), none, false, (.cal 29 [(.t 11), (.t 12)])⟩ :: q44_6
abbrev q44_8 : List RP := ⟨(some 12), none, true, (.ld true 4 (.t 3))⟩ :: q44_7
abbrev q44_9 : List RP := ⟨(some 11), none, true, (.ld true 8 (.t 2))⟩ :: q44_8
abbrev q44_10 : List RP := ⟨(some 15), none, false, (.bin .neq (.t 14) (.c (.int .i64 0)))⟩ :: []
abbrev q44_11 : List RP := ⟨(some 14), none, false, (.mv (.t 7))⟩ :: q44_10
abbrev q44_12 : List RP := ⟨(some 6), none, false, (.mv (.t 17))⟩ :: []
abbrev q44_13 : List RP := ⟨(some 5), none, false, (.mv (.c (.int .i64 0)))⟩ :: q44_12
abbrev q44_14 : List RP := ⟨none, none, false, (.st 4 (.t 4) (.t 16))⟩ :: q44_13
abbrev q44_15 : List RP := ⟨(some 17), none, false, (.mv (.t 7))⟩ :: q44_14
abbrev q44_16 : List RP := ⟨(some 16), none, false, (.build [.nils, .nils, (.int .u64 0), (.int .i64 0)] [])⟩ :: q44_15
abbrev q44_17 : RQ := (.seq (.reg q44_16) .ret)
abbrev q44_18 : RQ := (.cond (.t 15) q44_17 .skip)
abbrev q44_19 : RQ := (.seq (.reg q44_11) q44_18)
abbrev q44_20 : List RP := ⟨(some 21), none, false, (.bin .eql (.t 20) (.c (.int .i64 0)))⟩ :: []
abbrev q44_21 : List RP := ⟨(some 20), none, false, (.len (.t 19))⟩ :: q44_20
abbrev q44_22 : List RP := ⟨(some 19), none, false, (.ld false 1 (.t 18))⟩ :: q44_21
abbrev q44_23 : List RP := ⟨(some 18), none, false, (.fa 1 (.t 3))⟩ :: q44_22
abbrev q44_24 : List RP := ⟨(some 6), none, false, (.mv (.c (.int .i64 6)))⟩ :: []
abbrev q44_25 : List RP := ⟨(some 5), none, false, (.mv (.c (.int .i64 0)))⟩ :: q44_24
abbrev q44_26 : List RP := ⟨none, none, false, (.st 4 (.t 4) (.t 22))⟩ :: q44_25
abbrev q44_27 : List RP := ⟨(some 22), none, false, (.build [.nils, .nils, (.int .u64 0), (.int .i64 0)] [])⟩ :: q44_26
abbrev q44_28 : RQ := (.seq (.reg q44_27) .ret)
abbrev q44_29 : RQ := (.cond (.t 21) q44_28 .skip)
abbrev q44_30 : List RP := ⟨(some 8), none, false, (.mv (.t 26))⟩ :: []
abbrev q44_31 : List RP := ⟨(some 26), none, false, (.ld false 1 (.t 25))⟩ :: q44_30
abbrev q44_32 : List RP := ⟨(some 25), none, false, (.ias 1 (.t 24) (.c (.int .i64 0)))⟩ :: q44_31
abbrev q44_33 : List RP := ⟨(some 24), none, false, (.ld false 1 (.t 23))⟩ :: q44_32
abbrev q44_34 : List RP := ⟨(some 23), none, false, (.fa 1 (.t 3))⟩ :: q44_33
abbrev q44_35 : List RP := ⟨(some 10), none, false, (.mv (.t 33))⟩ :: []
abbrev q44_36 : List RP := ⟨none, none, false, (.st 4 (.t 9) (.t 32))⟩ :: q44_35
abbrev q44_37 : List RP := ⟨(some 9), none, false, (.alloc [.nils, .nils, (.int .u64 0), (.int .i64 0)])⟩ :: q44_36
abbrev q44_38 : List RP := ⟨(some 33), none, false, (.ext (.t 27) 1)⟩ :: q44_37
abbrev q44_39 : List RP := ⟨(some 32), none, false, (.ext (.t 27) 0)⟩ :: q44_38
abbrev q44_40 : List RP := ⟨(some 27), none, false, (.mv (.t 31))⟩ :: q44_39
abbrev q44_41 : List RP := ⟨(some 31), none, false, (.cal 71 [(.t 28), (.t 29), (.t 30), (.c (.int .u8 2)), (.c (.int .u64 0))])⟩ :: q44_40
abbrev q44_42 : List RP := ⟨(some 30), none, true, (.mv (.t 8))⟩ :: q44_41
abbrev q44_43 : List RP := ⟨(some 29), none, true, (.ld true 4 (.t 3))⟩ :: q44_42
abbrev q44_44 : List RP := ⟨(some 28), none, true, (.ld true 8 (.t 2))⟩ :: q44_43
abbrev q44_45 : List RP := ⟨(some 35), none, false, (.bin .neq (.t 34) (.c (.int .i64 0)))⟩ :: []
abbrev q44_46 : List RP := ⟨(some 34), none, false, (.mv (.t 10))⟩ :: q44_45
abbrev q44_47 : List RP := ⟨(some 6), none, false, (.mv (.t 37))⟩ :: []
abbrev q44_48 : List RP := ⟨(some 5), none, false, (.mv (.c (.int .i64 0)))⟩ :: q44_47
abbrev q44_49 : List RP := ⟨none, none, false, (.st 4 (.t 4) (.t 36))⟩ :: q44_48
abbrev q44_50 : List RP := ⟨(some 37), none, false, (.mv (.t 10))⟩ :: q44_49
abbrev q44_51 : List RP := ⟨(some 36), none, false, (.build [.nils, .nils, (.int .u64 0), (.int .i64 0)] [])⟩ :: q44_50
abbrev q44_52 : RQ := (.seq (.reg q44_51) .ret)
abbrev q44_53 : RQ := (.cond (.t 35) q44_52 .skip)
abbrev q44_54 : List RP := ⟨(some 6), none, false, (.mv (.c (.int .i64 0)))⟩ :: []
abbrev q44_55 : List RP := ⟨(some 5), none, false, (.mv (.t 39))⟩ :: q44_54
abbrev q44_56 : List RP := ⟨none, none, false, (.st 4 (.t 4) (.t 38))⟩ :: q44_55
abbrev q44_57 : List RP := ⟨(some 39), none, false, (.mv (.t 8))⟩ :: q44_56
abbrev q44_58 : List RP := ⟨(some 38), none, false, (.ld true 4 (.t 9))⟩ :: q44_57
abbrev q44_59 : RQ := (.seq (.reg q44_58) .ret)
abbrev q44_60 : RQ := (.seq (.seq (.reg q44_46) q44_53) q44_59)
abbrev q44_61 : RQ := (.seq (.reg q44_44) q44_60)
abbrev q44_62 : RQ := (.seq (.reg q44_34) q44_61)
abbrev q44_63 : RQ := (.seq (.seq (.reg q44_23) q44_29) q44_62)
abbrev q44_64 : RQ := (.seq (.seq (.reg q44_9) q44_19) q44_63)
abbrev q44 : RQ := (.seq (.reg q44_5) q44_64)
theorem l44 : ∃ c, f44.body = some c ∧ liteC prog f44.ntmps c = some q44 := ⟨_, rfl, by kernel_rfl⟩
theorem e44 : prog.funcs[44]? = some f44 := by kernel_rfl
theorem r44 : mapO (resOf prog) f44.results.toList = some [(.c 4 true 4), (.t 5), (.t 6)] := by kernel_rfl
theorem n44 : f44.ntmps = 40 := rfl
def T44 : TE := .fn q44 [(.c 4 true 4), (.t 5), (.t 6)] 40
theorem te44 : TEOK prog 44 T44 := te_fn e44 l44 rfl r44 n44

abbrev q45_1 : List RP := ⟨(some 7), none, false, (.mv (.c (.int .i64 0)))⟩ :: []
abbrev q45_2 : List RP := ⟨(some 6), none, false, (.alloc [(.int .i64 0), (.int .i64 0), (.int .i64 0), (.int .u8 0), (.int .u64 0), (.int .u64 0)])⟩ :: q45_1
abbrev q45_3 : List RP := ⟨(some 4), none, false, (.box (.t 1))⟩ :: q45_2
abbrev q45_4 : List RP := ⟨(some 3), none, false, (.box (.t 0))⟩ :: q45_3
abbrev q45_5 : List RP := ⟨(some 9), none, false, (.mv (.t 15))⟩ :: []
abbrev q45_6 : List RP := ⟨none, none, false, (.st 12 (.t 8) (.t 14))⟩ :: q45_5
abbrev q45_7 : List RP := ⟨(some 8), none, false, (.alloc [.nils, .nils, (.int .u64 0), (.int .i64 0), .nils, .nils, .nils, (.int .i64 0), (.int .i64 0), (.int .i64 0), (.int .i64 0), (.int .i64 0)])⟩ :: q45_6
abbrev q45_8 : List RP := ⟨(some 15), none, false, (.ext (.t 10) 1)⟩ :: q45_7
abbrev q45_9 : List RP := ⟨(some 14), none, false, (.ext (.t 10) 0)⟩ :: q45_8
abbrev q45_10 : List RP := ⟨(some 10), none, false, (.mv (.t 13))⟩ :: q45_9
abbrev q45_11 : List RP := ⟨(some 13), none, false, (.cal 53 [(.t 11), (.t 12)])⟩ :: q45_10
abbrev q45_12 : List RP := ⟨(some 12), none, true, (.ld true 4 (.t 4))⟩ :: q45_11
abbrev q45_13 : List RP := ⟨(some 11), none, true, (.ld true 8 (.t 3))⟩ :: q45_12
abbrev q45_14 : List RP := ⟨(some 17), none, false, (.bin .neq (.t 16) (.c (.int .i64 0)))⟩ :: []
abbrev q45_15 : List RP := ⟨(some 16), none, false, (.mv (.t 9))⟩ :: q45_14
abbrev q45_16 : List RP := ⟨(some 7), none, false, (.mv (.t 19))⟩ :: []
abbrev q45_17 : List RP := ⟨none, none, false, (.st 6 (.t 6) (.t 18))⟩ :: q45_16
abbrev q45_18 : List RP := ⟨(some 19), none, false, (.mv (.t 9))⟩ :: q45_17
abbrev q45_19 : List RP := ⟨(some 18), none, false, (.build [(.int .i64 0), (.int .i64 0), (.int .i64 0), (.int .u8 0), (.int .u64 0), (.int .u64 0)] [])⟩ :: q45_18
abbrev q45_20 : RQ := (.seq (.reg q45_19) .ret)
abbrev q45_21 : RQ := (.cond (.t 17) q45_20 .skip)
abbrev q45_22 : List RP := ⟨(some 7), none, false, (.mv (.t 24))⟩ :: []
abbrev q45_23 : List RP := ⟨none, none, false, (.st 6 (.t 6) (.t 23))⟩ :: q45_22
abbrev q45_24 : List RP := ⟨(some 24), none, false, (.ext (.t 22) 1)⟩ :: q45_23
abbrev q45_25 : List RP := ⟨(some 23), none, false, (.ext (.t 22) 0)⟩ :: q45_24
abbrev q45_26 : List RP := ⟨(some 22), none, false, (.cal 72 [(.t 20), (.t 21)])⟩ :: q45_25
abbrev q45_27 : List RP := ⟨(some 21), none, true, (.mv (.t 2))⟩ :: q45_26
abbrev q45_28 : List RP := ⟨(some 20), none, true, (.ld true 12 (.t 8))⟩ :: q45_27
abbrev q45_29 : RQ := (.seq (.reg q45_28) .ret)
abbrev q45_30 : RQ := (.seq (.seq (.reg q45_15) q45_21) q45_29)
abbrev q45_31 : RQ := (.seq (.reg q45_13) q45_30)
abbrev q45 : RQ := (.seq (.reg q45_4) q45_31)
theorem l45 : ∃ c, f45.body = some c ∧ liteC prog f45.ntmps c = some q45 := ⟨_, rfl, by kernel_rfl⟩
theorem e45 : prog.funcs[45]? = some f45 := by kernel_rfl
theorem r45 : mapO (resOf prog) f45.results.toList = some [(.c 6 true 6), (.t 7)] := by kernel_rfl
theorem n45 : f45.ntmps = 25 := rfl
def T45 : TE := .fn q45 [(.c 6 true 6), (.t 7)] 25
theorem te45 : TEOK prog 45 T45 := te_fn e45 l45 rfl r45 n45

abbrev q46_1 : List RP := ⟨(some 7), none, false, (.mv (.c (.int .i64 0)))⟩ :: []
abbrev q46_2 : List RP := ⟨(some 6), none, false, (.alloc [.nils, .nils, (.int .u64 0), (.int .i64 0)])⟩ :: q46_1
abbrev q46_3 : List RP := ⟨(some 4), none, false, (.box (.t 1))⟩ :: q46_2
abbrev q46_4 : List RP := ⟨(some 3), none, false, (.box (.t 0))⟩ :: q46_3
abbrev q46_5 : List RP := ⟨(some 7), none, false, (.mv (.t 13))⟩ :: []
abbrev q46_6 : List RP := ⟨none, none, false, (.st 4 (.t 6) (.t 12))⟩ :: q46_5
abbrev q46_7 : List RP := ⟨(some 13), none, false, (.ext (.t 11) 1)⟩ :: q46_6
abbrev q46_8 : List RP := ⟨(some 12), none, false, (.ext (.t 11) 0)⟩ :: q46_7
abbrev q46_9 : List RP := ⟨(some 11), none, false, (.cal 71 [(.t 8), (.t 9), (.t 10), (.c (.int .u8 5)), (.c (.int .u64 0))])⟩ :: q46_8
abbrev q46_10 : List RP := ⟨(some 10), none, true, (.mv (.t 2))⟩ :: q46_9
abbrev q46_11 : List RP := ⟨(some 9), none, true, (.ld true 4 (.t 4))⟩ :: q46_10
abbrev q46_12 : List RP := ⟨(some 8), none, true, (.ld true 8 (.t 3))⟩ :: q46_11
abbrev q46_13 : RQ := (.seq (.reg q46_12) .ret)
abbrev q46 : RQ := (.seq (.reg q46_4) q46_13)
theorem l46 : ∃ c, f46.body = some c ∧ liteC prog f46.ntmps c = some q46 := ⟨_, rfl, by kernel_rfl⟩
theorem e46 : prog.funcs[46]? = some f46 := by kernel_rfl
theorem r46 : mapO (resOf prog) f46.results.toList = some [(.c 6 true 4), (.t 7)] := by kernel_rfl
theorem n46 : f46.ntmps = 14 := rfl
def T46 : TE := .fn q46 [(.c 6 true 4), (.t 7)] 14
theorem te46 : TEOK prog 46 T46 := te_fn e46 l46 rfl r46 n46

abbrev q47_1 : List RP := ⟨(some 2), none, false, (.mv (.c (.bool false)))⟩ :: []
abbrev q47_2 : List RP := ⟨(some 2), none, false, (.mv (.t 8))⟩ :: []
abbrev q47_3 : List RP := ⟨(some 8), none, false, (.pick (.t 5) (.t 7) (.c (.bool false)))⟩ :: q47_2
abbrev q47_4 : List RP := ⟨(some 7), (some (5, true)), false, (.bin .leq (.t 6) (.c (.int .u8 5)))⟩ :: q47_3
abbrev q47_5 : List RP := ⟨(some 6), (some (5, true)), false, (.mv (.t 0))⟩ :: q47_4
abbrev q47_6 : List RP := ⟨(some 5), none, false, (.mv (.t 4))⟩ :: q47_5
abbrev q47_7 : List RP := ⟨(some 4), none, false, (.bin .geq (.t 3) (.c (.int .u8 1)))⟩ :: q47_6
abbrev q47_8 : List RP := ⟨(some 3), none, false, (.mv (.t 0))⟩ :: q47_7
abbrev q47_9 : RQ := (.seq (.reg q47_8) .ret)
abbrev q47 : RQ := (.seq (.reg q47_1) q47_9)
theorem l47 : ∃ c, f47.body = some c ∧ liteC prog f47.ntmps c = some q47 := ⟨_, rfl, by kernel_rfl⟩
theorem e47 : prog.funcs[47]? = some f47 := by kernel_rfl
theorem r47 : mapO (resOf prog) f47.results.toList = some [(.t 2)] := by kernel_rfl
theorem n47 : f47.ntmps = 9 := rfl
def T47 : TE := .fn q47 [(.t 2)] 9
theorem te47 : TEOK prog 47 T47 := te_fn e47 l47 rfl r47 n47

abbrev q48_1 : List RP := ⟨(some 4), none, false, (.mv (.c (.bool false)))⟩ :: []
abbrev q48_2 : List RP := ⟨(some 5), none, false, (.mv (.t 1))⟩ :: []
abbrev q48_3 : List RP := ⟨(some 6), none, false, (.mv (.t 7))⟩ :: []
abbrev q48_4 : List RP := ⟨(some 7), none, false, (.bin .eql (.t 5) (.c (.int .u8 2)))⟩ :: q48_3
abbrev q48_5 : List RP := ⟨(some 6), none, false, (.mv (.t 8))⟩ :: []
abbrev q48_6 : List RP := ⟨(some 8), none, false, (.bin .eql (.t 5) (.c (.int .u8 5)))⟩ :: q48_5
abbrev q48_7 : RQ := (.reg q48_6)
abbrev q48_8 : RQ := (.cond (.t 6) .skip q48_7)
abbrev q48_9 : List RP := ⟨(some 4), none, false, (.mv (.t 10))⟩ :: []
abbrev q48_10 : List RP := ⟨(some 10), none, false, (.bin .eql (.t 9) (.c (.int .u8 1)))⟩ :: q48_9
abbrev q48_11 : List RP := ⟨(some 9), none, false, (.mv (.t 0))⟩ :: q48_10
abbrev q48_12 : RQ := (.seq (.reg q48_11) .ret)
abbrev q48_13 : List RP := ⟨(some 11), none, false, (.mv (.t 12))⟩ :: []
abbrev q48_14 : List RP := ⟨(some 12), none, false, (.bin .eql (.t 5) (.c (.int .u8 3)))⟩ :: q48_13
abbrev q48_15 : List RP := ⟨(some 4), none, false, (.mv (.t 14))⟩ :: []
abbrev q48_16 : List RP := ⟨(some 14), none, false, (.bin .eql (.t 13) (.c (.int .u8 2)))⟩ :: q48_15
abbrev q48_17 : List RP := ⟨(some 13), none, false, (.mv (.t 0))⟩ :: q48_16
abbrev q48_18 : RQ := (.seq (.reg q48_17) .ret)
abbrev q48_19 : List RP := ⟨(some 15), none, false, (.mv (.t 16))⟩ :: []
abbrev q48_20 : List RP := ⟨(some 16), none, false, (.bin .eql (.t 5) (.c (.int .u8 4)))⟩ :: q48_19
abbrev q48_21 : List RP := ⟨(some 4), none, false, (.mv (.t 18))⟩ :: []
abbrev q48_22 : List RP := ⟨(some 18), none, false, (.bin .eql (.t 17) (.c (.int .u8 3)))⟩ :: q48_21
abbrev q48_23 : List RP := ⟨(some 17), none, false, (.mv (.t 0))⟩ :: q48_22
abbrev q48_24 : RQ := (.seq (.reg q48_23) .ret)
abbrev q48_25 : RQ := (.cond (.t 15) q48_24 .skip)
abbrev q48_26 : RQ := (.seq (.reg q48_20) q48_25)
abbrev q48_27 : RQ := (.cond (.t 11) q48_18 q48_26)
abbrev q48_28 : RQ := (.seq (.reg q48_14) q48_27)
abbrev q48_29 : RQ := (.cond (.t 6) q48_12 q48_28)
abbrev q48_30 : RQ := (.block 0 (.seq (.seq (.reg q48_4) q48_8) q48_29))
abbrev q48_31 : List RP := ⟨(some 4), none, false, (.mv (.c (.bool false)))⟩ :: []
abbrev q48_32 : RQ := (.seq (.reg q48_31) .ret)
abbrev q48_33 : RQ := (.seq (.seq (.reg q48_2) q48_30) q48_32)
abbrev q48 : RQ := (.seq (.reg q48_1) q48_33)
theorem l48 : ∃ c, f48.body = some c ∧ liteC prog f48.ntmps c = some q48 := ⟨_, rfl, by kernel_rfl⟩
theorem e48 : prog.funcs[48]? = some f48 := by kernel_rfl
theorem r48 : mapO (resOf prog) f48.results.toList = some [(.t 4)] := by kernel_rfl
theorem n48 : f48.ntmps = 19 := rfl
def T48 : TE := .fn q48 [(.t 4)] 19
theorem te48 : TEOK prog 48 T48 := te_fn e48 l48 rfl r48 n48

abbrev q49_1 : List RP := ⟨(some 4), none, false, (.mv (.c (.int .u64 0)))⟩ :: []
abbrev q49_2 : List RP := ⟨(some 4), none, false, (.mv (.t 8))⟩ :: []
abbrev q49_3 : List RP := ⟨(some 8), none, false, (.bin .quo (.t 5) (.t 7))⟩ :: q49_2
abbrev q49_4 : List RP := ⟨(some 7), none, false, (.cv .u64 (.t 6))⟩ :: q49_3
abbrev q49_5 : List RP := ⟨(some 6), none, false, (.mv (.t 1))⟩ :: q49_4
abbrev q49_6 : List RP := ⟨(some 5), none, false, (.mv (.t 0))⟩ :: q49_5
abbrev q49_7 : RQ := (.seq (.reg q49_6) .ret)
abbrev q49 : RQ := (.seq (.reg q49_1) q49_7)
theorem l49 : ∃ c, f49.body = some c ∧ liteC prog f49.ntmps c = some q49 := ⟨_, rfl, by kernel_rfl⟩
theorem e49 : prog.funcs[49]? = some f49 := by kernel_rfl
theorem r49 : mapO (resOf prog) f49.results.toList = some [(.t 4)] := by kernel_rfl
theorem n49 : f49.ntmps = 9 := rfl
def T49 : TE := .fn q49 [(.t 4)] 9
theorem te49 : TEOK prog 49 T49 := te_fn e49 l49 rfl r49 n49

abbrev q50_1 : List RP := ⟨(some 6), none, false, (.mv (.c (.bool false)))⟩ :: []
abbrev q50_2 : List RP := ⟨(some 11), none, false, (.mv (.c (.int .i64 0)))⟩ :: []
abbrev q50_3 : List RP := ⟨(some 10), none, false, (.len (.t 9))⟩ :: q50_2
abbrev q50_4 : List RP := ⟨(some 9), none, false, (.mv (.t 2))⟩ :: q50_3
abbrev q50_5 : List RP := ⟨(some 12), none, false, (.bin .lss (.t 11) (.t 10))⟩ :: []
abbrev q50_6 : RQ := (.exit 0)
abbrev q50_7 : List RP := ⟨(some 8), none, false, (.mv (.t 14))⟩ :: []
abbrev q50_8 : List RP := ⟨(some 14), none, false, (.ld false 1 (.t 13))⟩ :: q50_7
abbrev q50_9 : List RP := ⟨(some 13), none, false, (.ias 1 (.t 9) (.t 11))⟩ :: q50_8
abbrev q50_10 : List RP := ⟨(some 22), none, false, (.pick (.t 18) (.c (.bool true)) (.t 21))⟩ :: []
abbrev q50_11 : List RP := ⟨(some 21), (some (18, false)), false, (.bin .gtr (.t 19) (.t 20))⟩ :: q50_10
abbrev q50_12 : List RP := ⟨(some 20), (some (18, false)), false, (.mv (.t 1))⟩ :: q50_11
abbrev q50_13 : List RP := ⟨(some 19), (some (18, false)), false, (.mv (.t 8))⟩ :: q50_12
abbrev q50_14 : List RP := ⟨(some 18), none, false, (.mv (.t 17))⟩ :: q50_13
abbrev q50_15 : List RP := ⟨(some 17), none, false, (.bin .lss (.t 15) (.t 16))⟩ :: q50_14
abbrev q50_16 : List RP := ⟨(some 16), none, false, (.mv (.t 0))⟩ :: q50_15
abbrev q50_17 : List RP := ⟨(some 15), none, false, (.mv (.t 8))⟩ :: q50_16
abbrev q50_18 : List RP := ⟨(some 6), none, false, (.mv (.c (.bool false)))⟩ :: []
abbrev q50_19 : RQ := (.seq (.reg q50_18) .ret)
abbrev q50_20 : RQ := (.cond (.t 22) q50_19 .skip)
abbrev q50_21 : RQ := (.seq (.reg q50_17) q50_20)
abbrev q50_22 : List RP := ⟨(some 11), none, false, (.mv (.t 23))⟩ :: []
abbrev q50_23 : List RP := ⟨(some 23), none, false, (.bin .add (.t 11) (.c (.int .i64 1)))⟩ :: q50_22
abbrev q50_24 : RQ := (.reg q50_23)
abbrev q50_25 : RQ := (.seq (.block 1 (.seq (.reg q50_9) q50_21)) q50_24)
abbrev q50_26 : RQ := (.seq (.cond (.t 12) .skip q50_6) q50_25)
abbrev q50_27 : RQ := (.seq (.reg q50_5) q50_26)
abbrev q50_28 : RQ := (.block 0 (.loop q50_27))
abbrev q50_29 : List RP := ⟨(some 6), none, false, (.mv (.c (.bool true)))⟩ :: []
abbrev q50_30 : RQ := (.seq (.reg q50_29) .ret)
abbrev q50_31 : RQ := (.seq (.seq (.reg q50_4) q50_28) q50_30)
abbrev q50 : RQ := (.seq (.reg q50_1) q50_31)
theorem l50 : ∃ c, f50.body = some c ∧ liteC prog f50.ntmps c = some q50 := ⟨_, rfl, by kernel_rfl⟩
theorem e50 : prog.funcs[50]? = some f50 := by kernel_rfl
theorem r50 : mapO (resOf prog) f50.results.toList = some [(.t 6)] := by kernel_rfl
theorem n50 : f50.ntmps = 24 := rfl
def T50 : TE := .fn q50 [(.t 6)] 24
theorem te50 : TEOK prog 50 T50 := te_fn e50 l50 rfl r50 n50

abbrev q51_1 : List RP := ⟨(some 7), none, false, (.mv (.c (.int .i64 0)))⟩ :: []
abbrev q51_2 : List RP := ⟨(some 6), none, false, (.alloc [.nils, .nils, (.int .u64 0), (.int .i64 0)])⟩ :: q51_1
abbrev q51_3 : List RP := ⟨(some 4), none, false, (.box (.t 1))⟩ :: q51_2
abbrev q51_4 : List RP := ⟨(some 3), none, false, (.box (.t 0))⟩ :: q51_3
abbrev q51_5 : List RP := ⟨(some 7), none, false, (.mv (.t 13))⟩ :: []
abbrev q51_6 : List RP := ⟨none, none, false, (.st 4 (.t 6) (.t 12))⟩ :: q51_5
abbrev q51_7 : List RP := ⟨(some 13), none, false, (.ext (.t 11) 1)⟩ :: q51_6
abbrev q51_8 : List RP := ⟨(some 12), none, false, (.ext (.t 11) 0)⟩ :: q51_7
abbrev q51_9 : List RP := ⟨(some 11), none, false, (.cal 71 [(.t 8), (.t 9), (.t 10), (.c (.int .u8 3)), (.c (.int .u64 0))])⟩ :: q51_8
abbrev q51_10 : List RP := ⟨(some 10), none, true, (.mv (.t 2))⟩ :: q51_9
abbrev q51_11 : List RP := ⟨(some 9), none, true, (.ld true 4 (.t 4))⟩ :: q51_10
abbrev q51_12 : List RP := ⟨(some 8), none, true, (.ld true 8 (.t 3))⟩ :: q51_11
abbrev q51_13 : RQ := (.seq (.reg q51_12) .ret)
abbrev q51 : RQ := (.seq (.reg q51_4) q51_13)
theorem l51 : ∃ c, f51.body = some c ∧ liteC prog f51.ntmps c = some q51 := ⟨_, rfl, by kernel_rfl⟩
theorem e51 : prog.funcs[51]? = some f51 := by kernel_rfl
theorem r51 : mapO (resOf prog) f51.results.toList = some [(.c 6 true 4), (.t 7)] := by kernel_rfl
theorem n51 : f51.ntmps = 14 := rfl
def T51 : TE := .fn q51 [(.c 6 true 4), (.t 7)] 14
theorem te51 : TEOK prog 51 T51 := te_fn e51 l51 rfl r51 n51

abbrev q52_1 : List RP := ⟨(some 9), none, false, (.mv (.c (.int .i64 0)))⟩ :: []
abbrev q52_2 : List RP := ⟨(some 8), none, false, (.alloc [.nils, .nils, (.int .u64 0), (.int .i64 0)])⟩ :: q52_1
abbrev q52_3 : List RP := ⟨(some 5), none, false, (.box (.t 1))⟩ :: q52_2
abbrev q52_4 : List RP := ⟨(some 4), none, false, (.box (.t 0))⟩ :: q52_3
abbrev q52_5 : List RP := ⟨(some 9), none, false, (.mv (.t 16))⟩ :: []
abbrev q52_6 : List RP := ⟨none, none, false, (.st 4 (.t 8) (.t 15))⟩ :: q52_5
abbrev q52_7 : List RP := ⟨(some 16), none, false, (.ext (.t 14) 1)⟩ :: q52_6
abbrev q52_8 : List RP := ⟨(some 15), none, false, (.ext (.t 14) 0)⟩ :: q52_7
abbrev q52_9 : List RP := ⟨(some 14), none, false, (.cal 71 [(.t 10), (.t 11), (.t 12), (.c (.int .u8 4)), (.t 13)])⟩ :: q52_8
abbrev q52_10 : List RP := ⟨(some 13), none, true, (.mv (.t 3))⟩ :: q52_9
abbrev q52_11 : List RP := ⟨(some 12), none, true, (.mv (.t 2))⟩ :: q52_10
abbrev q52_12 : List RP := ⟨(some 11), none, true, (.ld true 4 (.t 5))⟩ :: q52_11
abbrev q52_13 : List RP := ⟨(some 10), none, true, (.ld true 8 (.t 4))⟩ :: q52_12
abbrev q52_14 : RQ := (.seq (.reg q52_13) .ret)
abbrev q52 : RQ := (.seq (.reg q52_4) q52_14)
theorem l52 : ∃ c, f52.body = some c ∧ liteC prog f52.ntmps c = some q52 := ⟨_, rfl, by kernel_rfl⟩
theorem e52 : prog.funcs[52]? = some f52 := by kernel_rfl
theorem r52 : mapO (resOf prog) f52.results.toList = some [(.c 8 true 4), (.t 9)] := by kernel_rfl
theorem n52 : f52.ntmps = 17 := rfl
def T52 : TE := .fn q52 [(.c 8 true 4), (.t 9)] 17
theorem te52 : TEOK prog 52 T52 := te_fn e52 l52 rfl r52 n52

abbrev q53_1 : List RP := ⟨(some 5), none, false, (.mv (.c (.int .i64 0)))⟩ :: []
abbrev q53_2 : List RP := ⟨(some 4), none, false, (.alloc [.nils, .nils, (.int .u64 0), (.int .i64 0), .nils, .nils, .nils, (.int .i64 0), (.int .i64 0), (.int .i64 0), (.int .i64 0), (.int .i64 0)])⟩ :: q53_1
abbrev q53_3 : List RP := ⟨(some 3), none, false, (.box (.t 1))⟩ :: q53_2
abbrev q53_4 : List RP := ⟨(some 2), none, false, (.box (.t 0))⟩ :: q53_3
abbrev q53_5 : List RP := ⟨none, none, false, (.st 12 (.t 6) (.t 10))⟩ :: []
abbrev q53_6 : List RP := ⟨(some 6), none, false, (.alloc [.nils, .nils, (.int .u64 0), (.int .i64 0), .nils, .nils, .nils, (.int .i64 0), (.int .i64 0), (.int .i64 0), (.int .i64 0), (.int .i64 0)])⟩ :: q53_5
abbrev q53_7 : List RP := ⟨(some 10), none, false, (.build [.nils, .nils, (.int .u64 0), (.int .i64 0), .nils, .nils, .nils, (.int .i64 0), (.int .i64 0), (.int .i64 0), (.int .i64 0), (.int .i64 0)] [(0, 4, (.t 8)), (4, 8, (.t 9))])⟩ :: q53_6
abbrev q53_8 : List RP := ⟨(some 9), none, false, (.ld true 8 (.t 2))⟩ :: q53_7
abbrev q53_9 : List RP := ⟨(some 8), none, false, (.ld true 4 (.t 3))⟩ :: q53_8
abbrev q53_10 : List RP := ⟨(some 7), none, false, (.mv (.t 12))⟩ :: []
abbrev q53_11 : List RP := ⟨(some 12), none, false, (.cal 55 [(.t 11)])⟩ :: q53_10
abbrev q53_12 : List RP := ⟨(some 11), none, true, (.ld true 12 (.t 6))⟩ :: q53_11
abbrev q53_13 : List RP := ⟨(some 14), none, false, (.bin .neq (.t 13) (.c (.int .i64 0)))⟩ :: []
abbrev q53_14 : List RP := ⟨(some 13), none, false, (.mv (.t 7))⟩ :: q53_13
abbrev q53_15 : List RP := ⟨(some 5), none, false, (.mv (.t 16))⟩ :: []
abbrev q53_16 : List RP := ⟨none, none, false, (.st 12 (.t 4) (.t 15))⟩ :: q53_15
abbrev q53_17 : List RP := ⟨(some 16), none, false, (.mv (.t 7))⟩ :: q53_16
abbrev q53_18 : List RP := ⟨(some 15), none, false, (.build [.nils, .nils, (.int .u64 0), (.int .i64 0), .nils, .nils, .nils, (.int .i64 0), (.int .i64 0), (.int .i64 0), (.int .i64 0), (.int .i64 0)] [])⟩ :: q53_17
abbrev q53_19 : RQ := (.seq (.reg q53_18) .ret)
abbrev q53_20 : RQ := (.cond (.t 14) q53_19 .skip)
abbrev q53_21 : RQ := (.seq (.reg q53_14) q53_20)
abbrev q53_22 : List (Bool × RP) := (false, ⟨(some 26), none, false, (.fa 0 (.t 25))⟩) :: []
abbrev q53_23 : List (Bool × RP) := (false, ⟨(some 25), none, false, (.fa 0 (.t 6))⟩) :: q53_22
abbrev q53_24 : List (Bool × RP) := (false, ⟨(some 24), none, false, (.cal 74 [(.t 23)])⟩) :: q53_23
abbrev q53_25 : List (Bool × RP) := (false, ⟨(some 23), none, true, (.ld false 1 (.t 22))⟩) :: q53_24
abbrev q53_26 : List (Bool × RP) := (false, ⟨(some 22), none, false, (.fa 1 (.t 21))⟩) :: q53_25
abbrev q53_27 : List (Bool × RP) := (false, ⟨(some 21), none, false, (.fa 0 (.t 6))⟩) :: q53_26
abbrev q53_28 : List (Bool × RP) := (false, ⟨(some 20), none, false, (.cal 73 [(.t 19)])⟩) :: q53_27
abbrev q53_29 : List (Bool × RP) := (false, ⟨(some 19), none, true, (.ld false 1 (.t 18))⟩) :: q53_28
abbrev q53_30 : List (Bool × RP) := (false, ⟨(some 18), none, false, (.fa 0 (.t 17))⟩) :: q53_29
abbrev q53_31 : List (Bool × RP) := (false, ⟨(some 17), none, false, (.fa 0 (.t 6))⟩) :: q53_30
abbrev q53_32 : List RP := ⟨none, none, false, (.st 1 (.t 28) (.t 24))⟩ :: []
abbrev q53_33 : List RP := ⟨(some 28), none, false, (.fa 1 (.t 27))⟩ :: q53_32
abbrev q53_34 : List RP := ⟨(some 27), none, false, (.fa 0 (.t 6))⟩ :: q53_33
abbrev q53_35 : List RP := ⟨none, none, false, (.st 1 (.t 26) (.t 20))⟩ :: q53_34
abbrev q53_36 : List RP := ⟨(some 5), none, false, (.mv (.c (.int .i64 0)))⟩ :: []
abbrev q53_37 : List RP := ⟨none, none, false, (.st 12 (.t 4) (.t 29))⟩ :: q53_36
abbrev q53_38 : List RP := ⟨(some 29), none, false, (.ld true 12 (.t 6))⟩ :: q53_37
abbrev q53_39 : RQ := (.seq (.reg q53_38) .ret)
abbrev q53_40 : RQ := (.seq (.drw q53_31 q53_35) q53_39)
abbrev q53_41 : RQ := (.seq (.seq (.reg q53_12) q53_21) q53_40)
abbrev q53_42 : RQ := (.seq (.reg q53_9) q53_41)
abbrev q53 : RQ := (.seq (.reg q53_4) q53_42)
theorem l53 : ∃ c, f53.body = some c ∧ liteC prog f53.ntmps c = some q53 := ⟨_, rfl, by kernel_rfl⟩
theorem e53 : prog.funcs[53]? = some f53 := by kernel_rfl
theorem r53 : mapO (resOf prog) f53.results.toList = some [(.c 4 true 12), (.t 5)] := by kernel_rfl
theorem n53 : f53.ntmps = 30 := rfl
def T53 : TE := .fn q53 [(.c 4 true 12), (.t 5)] 30
theorem te53 : TEOK prog 53 T53 := te_fn e53 l53 rfl r53 n53

abbrev q54_1 : List RP := ⟨(some 6), none, false, (.mv (.c (.bool false)))⟩ :: []
abbrev q54_2 : List RP := ⟨(some 3), none, false, (.box (.t 0))⟩ :: q54_1
abbrev q54_3 : List RP := ⟨(some 6), none, false, (.mv (.t 24))⟩ :: []
abbrev q54_4 : List RP := ⟨(some 24), none, false, (.pick (.t 15) (.t 23) (.c (.bool false)))⟩ :: q54_3
abbrev q54_5 : List RP := ⟨(some 23), (some (15, true)), false, (.cal 50 [(.c (.int .i64 0)), (.t 20), (.t 22)])⟩ :: q54_4
abbrev q54_6 : List RP := ⟨(some 22), (some (15, true)), true, (.bslice 1 1 [(.int .i64 0)] [(0, (.t 21))])⟩ :: q54_5
abbrev q54_7 : List RP := ⟨(some 21), (some (15, true)), false, (.mv (.t 2))⟩ :: q54_6
abbrev q54_8 : List RP := ⟨(some 20), (some (15, true)), true, (.bin .sub (.t 19) (.c (.int .i64 1)))⟩ :: q54_7
abbrev q54_9 : List RP := ⟨(some 19), (some (15, true)), false, (.len (.t 18))⟩ :: q54_8
abbrev q54_10 : List RP := ⟨(some 18), (some (15, true)), false, (.ld false 1 (.t 17))⟩ :: q54_9
abbrev q54_11 : List RP := ⟨(some 17), (some (15, true)), false, (.fa 2 (.t 16))⟩ :: q54_10
abbrev q54_12 : List RP := ⟨(some 16), (some (15, true)), false, (.fa 4 (.t 3))⟩ :: q54_11
abbrev q54_13 : List RP := ⟨(some 15), none, false, (.mv (.t 14))⟩ :: q54_12
abbrev q54_14 : List RP := ⟨(some 14), none, false, (.cal 50 [(.c (.int .i64 0)), (.t 11), (.t 13)])⟩ :: q54_13
abbrev q54_15 : List RP := ⟨(some 13), none, true, (.bslice 1 1 [(.int .i64 0)] [(0, (.t 12))])⟩ :: q54_14
abbrev q54_16 : List RP := ⟨(some 12), none, false, (.mv (.t 1))⟩ :: q54_15
abbrev q54_17 : List RP := ⟨(some 11), none, true, (.bin .sub (.t 10) (.c (.int .i64 1)))⟩ :: q54_16
abbrev q54_18 : List RP := ⟨(some 10), none, false, (.len (.t 9))⟩ :: q54_17
abbrev q54_19 : List RP := ⟨(some 9), none, false, (.ld false 1 (.t 8))⟩ :: q54_18
abbrev q54_20 : List RP := ⟨(some 8), none, false, (.fa 1 (.t 7))⟩ :: q54_19
abbrev q54_21 : List RP := ⟨(some 7), none, false, (.fa 4 (.t 3))⟩ :: q54_20
abbrev q54_22 : RQ := (.seq (.reg q54_21) .ret)
abbrev q54 : RQ := (.seq (.reg q54_2) q54_22)
theorem l54 : ∃ c, f54.body = some c ∧ liteC prog f54.ntmps c = some q54 := ⟨_, rfl, by kernel_rfl⟩
theorem e54 : prog.funcs[54]? = some f54 := by kernel_rfl
theorem r54 : mapO (resOf prog) f54.results.toList = some [(.t 6)] := by kernel_rfl
theorem n54 : f54.ntmps = 25 := rfl
def T54 : TE := .fn q54 [(.t 6)] 25
theorem te54 : TEOK prog 54 T54 := te_fn e54 l54 rfl r54 n54

abbrev q57_1 : List RP := ⟨(some 2), none, false, (.mv (.c (.bool false)))⟩ :: []
abbrev q57_2 : List RP := ⟨(some 1), none, false, (.box (.t 0))⟩ :: q57_1
abbrev q57_3 : List RP := ⟨(some 5), none, false, (.bin .eql (.t 4) (.c (.int .u8 4)))⟩ :: []
abbrev q57_4 : List RP := ⟨(some 4), none, false, (.ld false 1 (.t 3))⟩ :: q57_3
abbrev q57_5 : List RP := ⟨(some 3), none, false, (.fa 3 (.t 1))⟩ :: q57_4
abbrev q57_6 : List RP := ⟨(some 2), none, false, (.mv (.t 13))⟩ :: []
abbrev q57_7 : List RP := ⟨(some 13), none, false, (.pick (.t 9) (.t 12) (.c (.bool false)))⟩ :: q57_6
abbrev q57_8 : List RP := ⟨(some 12), (some (9, true)), false, (.bin .leq (.t 11) (.c (.int .u64 4611686018427387904)))⟩ :: q57_7
abbrev q57_9 : List RP := ⟨(some 11), (some (9, true)), false, (.ld false 1 (.t 10))⟩ :: q57_8
abbrev q57_10 : List RP := ⟨(some 10), (some (9, true)), false, (.fa 5 (.t 1))⟩ :: q57_9
abbrev q57_11 : List RP := ⟨(some 9), none, false, (.mv (.t 8))⟩ :: q57_10
abbrev q57_12 : List RP := ⟨(some 8), none, false, (.bin .geq (.t 7) (.c (.int .u64 1)))⟩ :: q57_11
abbrev q57_13 : List RP := ⟨(some 7), none, false, (.ld false 1 (.t 6))⟩ :: q57_12
abbrev q57_14 : List RP := ⟨(some 6), none, false, (.fa 5 (.t 1))⟩ :: q57_13
abbrev q57_15 : RQ := (.seq (.reg q57_14) .ret)
abbrev q57_16 : RQ := (.cond (.t 5) q57_15 .skip)
abbrev q57_17 : List RP := ⟨(some 2), none, false, (.mv (.t 16))⟩ :: []
abbrev q57_18 : List RP := ⟨(some 16), none, false, (.bin .eql (.t 15) (.c (.int .u64 0)))⟩ :: q57_17
abbrev q57_19 : List RP := ⟨(some 15), none, false, (.ld false 1 (.t 14))⟩ :: q57_18
abbrev q57_20 : List RP := ⟨(some 14), none, false, (.fa 5 (.t 1))⟩ :: q57_19
abbrev q57_21 : RQ := (.seq (.reg q57_20) .ret)
abbrev q57_22 : RQ := (.seq (.seq (.reg q57_5) q57_16) q57_21)
abbrev q57 : RQ := (.seq (.reg q57_2) q57_22)
theorem l57 : ∃ c, f57.body = some c ∧ liteC prog f57.ntmps c = some q57 := ⟨_, rfl, by kernel_rfl⟩
theorem e57 : prog.funcs[57]? = some f57 := by kernel_rfl
theorem r57 : mapO (resOf prog) f57.results.toList = some [(.t 2)] := by kernel_rfl
theorem n57 : f57.ntmps = 17 := rfl
def T57 : TE := .fn q57 [(.t 2)] 17
theorem te57 : TEOK prog 57 T57 := te_fn e57 l57 rfl r57 n57

abbrev q69_1 : List RP := ⟨(some 4), none, false, (.mv (.c (.bool false)))⟩ :: []
abbrev q69_2 : List RP := ⟨(some 4), none, false, (.mv (.t 11))⟩ :: []
abbrev q69_3 : List RP := ⟨(some 11), none, false, (.pick (.t 7) (.t 10) (.c (.bool false)))⟩ :: q69_2
abbrev q69_4 : List RP := ⟨(some 10), (some (7, true)), false, (.bin .leq (.t 8) (.t 9))⟩ :: q69_3
abbrev q69_5 : List RP := ⟨(some 9), (some (7, true)), false, (.mv (.t 1))⟩ :: q69_4
abbrev q69_6 : List RP := ⟨(some 8), (some (7, true)), false, (.mv (.t 0))⟩ :: q69_5
abbrev q69_7 : List RP := ⟨(some 7), none, false, (.mv (.t 6))⟩ :: q69_6
abbrev q69_8 : List RP := ⟨(some 6), none, false, (.bin .geq (.t 5) (.c (.int .i64 1)))⟩ :: q69_7
abbrev q69_9 : List RP := ⟨(some 5), none, false, (.mv (.t 0))⟩ :: q69_8
abbrev q69_10 : RQ := (.seq (.reg q69_9) .ret)
abbrev q69 : RQ := (.seq (.reg q69_1) q69_10)
theorem l69 : ∃ c, f69.body = some c ∧ liteC prog f69.ntmps c = some q69 := ⟨_, rfl, by kernel_rfl⟩
theorem e69 : prog.funcs[69]? = some f69 := by kernel_rfl
theorem r69 : mapO (resOf prog) f69.results.toList = some [(.t 4)] := by kernel_rfl
theorem n69 : f69.ntmps = 12 := rfl
def T69 : TE := .fn q69 [(.t 4)] 12
theorem te69 : TEOK prog 69 T69 := te_fn e69 l69 rfl r69 n69

abbrev q71_1 : List RP := ⟨(some 11), none, false, (.mv (.c (.int .i64 0)))⟩ :: []
abbrev q71_2 : List RP := ⟨(some 10), none, false, (.alloc [.nils, .nils, (.int .u64 0), (.int .i64 0)])⟩ :: q71_1
abbrev q71_3 : List RP := ⟨(some 6), none, false, (.box (.t 1))⟩ :: q71_2
abbrev q71_4 : List RP := ⟨(some 5), none, false, (.box (.t 0))⟩ :: q71_3
abbrev q71_5 : List RP := ⟨(some 13), none, false, (.mv (.t 20))⟩ :: []
abbrev q71_6 : List RP := ⟨none, none, false, (.st 12 (.t 12) (.t 19))⟩ :: q71_5
abbrev q71_7 : List RP := ⟨(some 12), none, false, (.alloc [.nils, .nils, (.int .u64 0), (.int .i64 0), .nils, .nils, .nils, (.int .i64 0), (.int .i64 0), (.int .i64 0), (.int .i64 0), (.int .i64 0)])⟩ :: q71_6
abbrev q71_8 : List RP := ⟨(some 20), none, false, (.ext (.t 15) 1)⟩ :: q71_7
abbrev q71_9 : List RP := ⟨(some 19), none, false, (.ext (.t 15) 0)⟩ :: q71_8
abbrev q71_10 : List RP := ⟨(some 15), none, false, (.mv (.t 18))⟩ :: q71_9
abbrev q71_11 : List RP := ⟨(some 18), none, false, (.cal 53 [(.t 16), (.t 17)])⟩ :: q71_10
abbrev q71_12 : List RP := ⟨(some 17), none, true, (.ld true 4 (.t 6))⟩ :: q71_11
abbrev q71_13 : List RP := ⟨(some 16), none, true, (.ld true 8 (.t 5))⟩ :: q71_12
abbrev q71_14 : List RP := ⟨(some 22), none, false, (.bin .neq (.t 21) (.c (.int .i64 0)))⟩ :: []
abbrev q71_15 : List RP := ⟨(some 21), none, false, (.mv (.t 13))⟩ :: q71_14
abbrev q71_16 : List RP := ⟨(some 11), none, false, (.mv (.t 24))⟩ :: []
abbrev q71_17 : List RP := ⟨none, none, false, (.st 4 (.t 10) (.t 23))⟩ :: q71_16
abbrev q71_18 : List RP := ⟨(some 24), none, false, (.mv (.t 13))⟩ :: q71_17
abbrev q71_19 : List RP := ⟨(some 23), none, false, (.build [.nils, .nils, (.int .u64 0), (.int .i64 0)] [])⟩ :: q71_18
abbrev q71_20 : RQ := (.seq (.reg q71_19) .ret)
abbrev q71_21 : RQ := (.cond (.t 22) q71_20 .skip)
abbrev q71_22 : List RP := ⟨(some 13), none, false, (.mv (.t 30))⟩ :: []
abbrev q71_23 : List RP := ⟨none, none, false, (.st 6 (.t 14) (.t 29))⟩ :: q71_22
abbrev q71_24 : List RP := ⟨(some 14), none, false, (.alloc [(.int .i64 0), (.int .i64 0), (.int .i64 0), (.int .u8 0), (.int .u64 0), (.int .u64 0)])⟩ :: q71_23
abbrev q71_25 : List RP := ⟨(some 30), none, false, (.ext (.t 25) 1)⟩ :: q71_24
abbrev q71_26 : List RP := ⟨(some 29), none, false, (.ext (.t 25) 0)⟩ :: q71_25
abbrev q71_27 : List RP := ⟨(some 25), none, false, (.mv (.t 28))⟩ :: q71_26
abbrev q71_28 : List RP := ⟨(some 28), none, false, (.cal 72 [(.t 26), (.t 27)])⟩ :: q71_27
abbrev q71_29 : List RP := ⟨(some 27), none, true, (.mv (.t 2))⟩ :: q71_28
abbrev q71_30 : List RP := ⟨(some 26), none, true, (.ld true 12 (.t 12))⟩ :: q71_29
abbrev q71_31 : List RP := ⟨(some 32), none, false, (.bin .neq (.t 31) (.c (.int .i64 0)))⟩ :: []
abbrev q71_32 : List RP := ⟨(some 31), none, false, (.mv (.t 13))⟩ :: q71_31
abbrev q71_33 : List RP := ⟨(some 11), none, false, (.mv (.t 34))⟩ :: []
abbrev q71_34 : List RP := ⟨none, none, false, (.st 4 (.t 10) (.t 33))⟩ :: q71_33
abbrev q71_35 : List RP := ⟨(some 34), none, false, (.mv (.t 13))⟩ :: q71_34
abbrev q71_36 : List RP := ⟨(some 33), none, false, (.build [.nils, .nils, (.int .u64 0), (.int .i64 0)] [])⟩ :: q71_35
abbrev q71_37 : RQ := (.seq (.reg q71_36) .ret)
abbrev q71_38 : RQ := (.cond (.t 32) q71_37 .skip)
abbrev q71_39 : List RP := ⟨(some 13), none, false, (.mv (.t 41))⟩ :: []
abbrev q71_40 : List RP := ⟨none, none, false, (.st 6 (.t 14) (.t 40))⟩ :: q71_39
abbrev q71_41 : List RP := ⟨(some 41), none, false, (.ext (.t 35) 1)⟩ :: q71_40
abbrev q71_42 : List RP := ⟨(some 40), none, false, (.ext (.t 35) 0)⟩ :: q71_41
abbrev q71_43 : List RP := ⟨(some 35), none, false, (.mv (.t 39))⟩ :: q71_42
abbrev q71_44 : List RP := ⟨(some 39), none, false, (.cal 18 [(.t 36), (.t 37), (.t 38)])⟩ :: q71_43
abbrev q71_45 : List RP := ⟨(some 38), none, true, (.mv (.t 4))⟩ :: q71_44
abbrev q71_46 : List RP := ⟨(some 37), none, true, (.mv (.t 3))⟩ :: q71_45
abbrev q71_47 : List RP := ⟨(some 36), none, true, (.ld true 6 (.t 14))⟩ :: q71_46
abbrev q71_48 : List RP := ⟨(some 43), none, false, (.bin .neq (.t 42) (.c (.int .i64 0)))⟩ :: []
abbrev q71_49 : List RP := ⟨(some 42), none, false, (.mv (.t 13))⟩ :: q71_48
abbrev q71_50 : List RP := ⟨(some 11), none, false, (.mv (.t 45))⟩ :: []
abbrev q71_51 : List RP := ⟨none, none, false, (.st 4 (.t 10) (.t 44))⟩ :: q71_50
abbrev q71_52 : List RP := ⟨(some 45), none, false, (.mv (.t 13))⟩ :: q71_51
abbrev q71_53 : List RP := ⟨(some 44), none, false, (.build [.nils, .nils, (.int .u64 0), (.int .i64 0)] [])⟩ :: q71_52
abbrev q71_54 : RQ := (.seq (.reg q71_53) .ret)
abbrev q71_55 : RQ := (.cond (.t 43) q71_54 .skip)
abbrev q71_56 : List RP := ⟨none, none, false, (.st 6 (.t 52) (.t 51))⟩ :: []
abbrev q71_57 : List RP := ⟨(some 52), none, false, (.ias 6 (.t 48) (.t 50))⟩ :: q71_56
abbrev q71_58 : List RP := ⟨(some 51), none, false, (.ld true 6 (.t 14))⟩ :: q71_57
abbrev q71_59 : List RP := ⟨(some 50), none, false, (.bin .sub (.t 49) (.c (.int .i64 1)))⟩ :: q71_58
abbrev q71_60 : List RP := ⟨(some 49), none, false, (.mv (.t 2))⟩ :: q71_59
abbrev q71_61 : List RP := ⟨(some 48), none, false, (.ld false 1 (.t 47))⟩ :: q71_60
abbrev q71_62 : List RP := ⟨(some 47), none, false, (.fa 0 (.t 46))⟩ :: q71_61
abbrev q71_63 : List RP := ⟨(some 46), none, false, (.fa 0 (.t 12))⟩ :: q71_62
abbrev q71_64 : List RP := ⟨none, none, false, (.st 1 (.t 56) (.t 54))⟩ :: []
abbrev q71_65 : List RP := ⟨(some 56), none, false, (.fa 1 (.t 55))⟩ :: q71_64
abbrev q71_66 : List RP := ⟨(some 55), none, false, (.fa 0 (.t 12))⟩ :: q71_65
abbrev q71_67 : List RP := ⟨(some 54), none, false, (.cal 81 [(.t 53)])⟩ :: q71_66
abbrev q71_68 : List RP := ⟨(some 53), none, true, (.ld true 12 (.t 12))⟩ :: q71_67
abbrev q71_69 : List RP := ⟨(some 11), none, false, (.mv (.c (.int .i64 0)))⟩ :: []
abbrev q71_70 : List RP := ⟨none, none, false, (.st 4 (.t 10) (.t 58))⟩ :: q71_69
abbrev q71_71 : List RP := ⟨(some 58), none, false, (.ld true 4 (.t 57))⟩ :: q71_70
abbrev q71_72 : List RP := ⟨(some 57), none, false, (.fa 0 (.t 12))⟩ :: q71_71
abbrev q71_73 : RQ := (.seq (.reg q71_72) .ret)
abbrev q71_74 : RQ := (.seq (.reg q71_68) q71_73)
abbrev q71_75 : RQ := (.seq (.reg q71_63) q71_74)
abbrev q71_76 : RQ := (.seq (.seq (.reg q71_49) q71_55) q71_75)
abbrev q71_77 : RQ := (.seq (.reg q71_47) q71_76)
abbrev q71_78 : RQ := (.seq (.seq (.reg q71_32) q71_38) q71_77)
abbrev q71_79 : RQ := (.seq (.reg q71_30) q71_78)
abbrev q71_80 : RQ := (.seq (.seq (.reg q71_15) q71_21) q71_79)
abbrev q71_81 : RQ := (.seq (.reg q71_13) q71_80)
abbrev q71 : RQ := (.seq (.reg q71_4) q71_81)
theorem l71 : ∃ c, f71.body = some c ∧ liteC prog f71.ntmps c = some q71 := ⟨_, rfl, by kernel_rfl⟩
theorem e71 : prog.funcs[71]? = some f71 := by kernel_rfl
theorem r71 : mapO (resOf prog) f71.results.toList = some [(.c 10 true 4), (.t 11)] := by kernel_rfl
theorem n71 : f71.ntmps = 59 := rfl
def T71 : TE := .fn q71 [(.c 10 true 4), (.t 11)] 59
theorem te71 : TEOK prog 71 T71 := te_fn e71 l71 rfl r71 n71

abbrev q72_1 : List RP := ⟨(some 5), none, false, (.mv (.c (.int .i64 0)))⟩ :: []
abbrev q72_2 : List RP := ⟨(some 4), none, false, (.alloc [(.int .i64 0), (.int .i64 0), (.int .i64 0), (.int .u8 0), (.int .u64 0), (.int .u64 0)])⟩ :: q72_1
abbrev q72_3 : List RP := ⟨(some 2), none, false, (.box (.t 0))⟩ :: q72_2
abbrev q72_4 : List RP := ⟨(some 13), none, false, (.not (.t 12))⟩ :: []
abbrev q72_5 : List RP := ⟨(some 12), none, false, (.cal 50 [(.c (.int .i64 1)), (.t 9), (.t 11)])⟩ :: q72_4
abbrev q72_6 : List RP := ⟨(some 11), none, true, (.bslice 1 1 [(.int .i64 0)] [(0, (.t 10))])⟩ :: q72_5
abbrev q72_7 : List RP := ⟨(some 10), none, false, (.mv (.t 1))⟩ :: q72_6
abbrev q72_8 : List RP := ⟨(some 9), none, true, (.len (.t 8))⟩ :: q72_7
abbrev q72_9 : List RP := ⟨(some 8), none, false, (.ld false 1 (.t 7))⟩ :: q72_8
abbrev q72_10 : List RP := ⟨(some 7), none, false, (.fa 0 (.t 6))⟩ :: q72_9
abbrev q72_11 : List RP := ⟨(some 6), none, false, (.fa 0 (.t 2))⟩ :: q72_10
abbrev q72_12 : List RP := ⟨(some 5), none, false, (.mv (.c (.int .i64 6)))⟩ :: []
abbrev q72_13 : List RP := ⟨none, none, false, (.st 6 (.t 4) (.t 14))⟩ :: q72_12
abbrev q72_14 : List RP := ⟨(some 14), none, false, (.build [(.int .i64 0), (.int .i64 0), (.int .i64 0), (.int .u8 0), (.int .u64 0), (.int .u64 0)] [])⟩ :: q72_13
abbrev q72_15 : RQ := (.seq (.reg q72_14) .ret)
abbrev q72_16 : RQ := (.cond (.t 13) q72_15 .skip)
abbrev q72_17 : List RP := ⟨(some 5), none, false, (.mv (.c (.int .i64 0)))⟩ :: []
abbrev q72_18 : List RP := ⟨none, none, false, (.st 6 (.t 4) (.t 21))⟩ :: q72_17
abbrev q72_19 : List RP := ⟨(some 21), none, false, (.ld true 6 (.t 20))⟩ :: q72_18
abbrev q72_20 : List RP := ⟨(some 20), none, false, (.ias 6 (.t 17) (.t 19))⟩ :: q72_19
abbrev q72_21 : List RP := ⟨(some 19), none, false, (.bin .sub (.t 18) (.c (.int .i64 1)))⟩ :: q72_20
abbrev q72_22 : List RP := ⟨(some 18), none, false, (.mv (.t 1))⟩ :: q72_21
abbrev q72_23 : List RP := ⟨(some 17), none, false, (.ld false 1 (.t 16))⟩ :: q72_22
abbrev q72_24 : List RP := ⟨(some 16), none, false, (.fa 0 (.t 15))⟩ :: q72_23
abbrev q72_25 : List RP := ⟨(some 15), none, false, (.fa 0 (.t 2))⟩ :: q72_24
abbrev q72_26 : RQ := (.seq (.reg q72_25) .ret)
abbrev q72_27 : RQ := (.seq (.seq (.reg q72_11) q72_16) q72_26)
abbrev q72 : RQ := (.seq (.reg q72_3) q72_27)
theorem l72 : ∃ c, f72.body = some c ∧ liteC prog f72.ntmps c = some q72 := ⟨_, rfl, by kernel_rfl⟩
theorem e72 : prog.funcs[72]? = some f72 := by kernel_rfl
theorem r72 : mapO (resOf prog) f72.results.toList = some [(.c 4 true 6), (.t 5)] := by kernel_rfl
theorem n72 : f72.ntmps = 22 := rfl
def T72 : TE := .fn q72 [(.c 4 true 6), (.t 5)] 22
theorem te72 : TEOK prog 72 T72 := te_fn e72 l72 rfl r72 n72

abbrev q73_1 : List RP := ⟨(some 2), none, false, (.mv (.c .nils))⟩ :: []
abbrev q73_2 : List RP := ⟨(some 4), none, false, (.eqn false (.t 3) (.c .nils))⟩ :: []
abbrev q73_3 : List RP := ⟨(some 3), none, false, (.mv (.t 0))⟩ :: q73_2
abbrev q73_4 : List RP := ⟨(some 2), none, false, (.mv (.c .nils))⟩ :: []
abbrev q73_5 : RQ := (.seq (.reg q73_4) .ret)
abbrev q73_6 : RQ := (.cond (.t 4) q73_5 .skip)
abbrev q73_7 : List RP := ⟨(some 2), none, false, (.mv (.t 7))⟩ :: []
abbrev q73_8 : List RP := ⟨(some 7), none, false, (.app 6 48 [(.int .i64 0), (.int .i64 0), (.int .i64 0), (.int .u8 0), (.int .u64 0), (.int .u64 0)] (.t 5) (.t 6))⟩ :: q73_7
abbrev q73_9 : List RP := ⟨(some 6), none, true, (.mv (.t 0))⟩ :: q73_8
abbrev q73_10 : List RP := ⟨(some 5), none, false, (.bslice 6 0 [(.int .i64 0), (.int .i64 0), (.int .i64 0), (.int .u8 0), (.int .u64 0), (.int .u64 0)] [])⟩ :: q73_9
abbrev q73_11 : RQ := (.seq (.reg q73_10) .ret)
abbrev q73_12 : RQ := (.seq (.seq (.reg q73_3) q73_6) q73_11)
abbrev q73 : RQ := (.seq (.reg q73_1) q73_12)
theorem l73 : ∃ c, f73.body = some c ∧ liteC prog f73.ntmps c = some q73 := ⟨_, rfl, by kernel_rfl⟩
theorem e73 : prog.funcs[73]? = some f73 := by kernel_rfl
theorem r73 : mapO (resOf prog) f73.results.toList = some [(.t 2)] := by kernel_rfl
theorem n73 : f73.ntmps = 8 := rfl
def T73 : TE := .fn q73 [(.t 2)] 8
theorem te73 : TEOK prog 73 T73 := te_fn e73 l73 rfl r73 n73

abbrev q74_1 : List RP := ⟨(some 2), none, false, (.mv (.c .nils))⟩ :: []
abbrev q74_2 : List RP := ⟨(some 4), none, false, (.eqn false (.t 3) (.c .nils))⟩ :: []
abbrev q74_3 : List RP := ⟨(some 3), none, false, (.mv (.t 0))⟩ :: q74_2
abbrev q74_4 : List RP := ⟨(some 2), none, false, (.mv (.c .nils))⟩ :: []
abbrev q74_5 : RQ := (.seq (.reg q74_4) .ret)
abbrev q74_6 : RQ := (.cond (.t 4) q74_5 .skip)
abbrev q74_7 : List RP := ⟨(some 2), none, false, (.mv (.t 7))⟩ :: []
abbrev q74_8 : List RP := ⟨(some 7), none, false, (.app 1 8 [(.int .i64 0)] (.t 5) (.t 6))⟩ :: q74_7
abbrev q74_9 : List RP := ⟨(some 6), none, true, (.mv (.t 0))⟩ :: q74_8
abbrev q74_10 : List RP := ⟨(some 5), none, false, (.bslice 1 0 [(.int .i64 0)] [])⟩ :: q74_9
abbrev q74_11 : RQ := (.seq (.reg q74_10) .ret)
abbrev q74_12 : RQ := (.seq (.seq (.reg q74_3) q74_6) q74_11)
abbrev q74 : RQ := (.seq (.reg q74_1) q74_12)
theorem l74 : ∃ c, f74.body = some c ∧ liteC prog f74.ntmps c = some q74 := ⟨_, rfl, by kernel_rfl⟩
theorem e74 : prog.funcs[74]? = some f74 := by kernel_rfl
theorem r74 : mapO (resOf prog) f74.results.toList = some [(.t 2)] := by kernel_rfl
theorem n74 : f74.ntmps = 8 := rfl
def T74 : TE := .fn q74 [(.t 2)] 8
theorem te74 : TEOK prog 74 T74 := te_fn e74 l74 rfl r74 n74

abbrev q76_1 : List RP := ⟨(some 1), none, false, (.box (.t 0))⟩ :: []
abbrev q76_2 : List RP := ⟨none, none, false, (.st 8 (.t 2) (.t 4))⟩ :: []
abbrev q76_3 : List RP := ⟨(some 2), none, false, (.alloc [.nils, .nils, .nils, (.int .i64 0), (.int .i64 0), (.int .i64 0), (.int .i64 0), (.int .i64 0)])⟩ :: q76_2
abbrev q76_4 : List RP := ⟨(some 4), none, false, (.ld true 8 (.t 3))⟩ :: q76_3
abbrev q76_5 : List RP := ⟨(some 3), none, false, (.fa 4 (.t 1))⟩ :: q76_4
abbrev q76_6 : List RP := ⟨(some 10), none, false, (.cal 82 [(.t 9), (.c (.int .i64 70))])⟩ :: []
abbrev q76_7 : List RP := ⟨(some 9), none, true, (.cal 50 [(.c (.int .i64 1)), (.c (.int .i64 3)), (.t 8)])⟩ :: q76_6
abbrev q76_8 : List RP := ⟨(some 8), none, true, (.bslice 1 1 [(.int .i64 0)] [(0, (.t 7))])⟩ :: q76_7
abbrev q76_9 : List RP := ⟨(some 7), none, false, (.len (.t 6))⟩ :: q76_8
abbrev q76_10 : List RP := ⟨(some 6), none, false, (.ld false 1 (.t 5))⟩ :: q76_9
abbrev q76_11 : List RP := ⟨(some 5), none, false, (.fa 0 (.t 2))⟩ :: q76_10
abbrev q76_12 : List RP := ⟨(some 19), none, false, (.cal 82 [(.t 18), (.c (.int .i64 70))])⟩ :: []
abbrev q76_13 : List RP := ⟨(some 18), none, true, (.cal 50 [(.c (.int .i64 1)), (.c (.int .i64 3)), (.t 17)])⟩ :: q76_12
abbrev q76_14 : List RP := ⟨(some 17), none, true, (.bslice 1 2 [(.int .i64 0)] [(0, (.t 13)), (1, (.t 16))])⟩ :: q76_13
abbrev q76_15 : List RP := ⟨(some 16), none, false, (.len (.t 15))⟩ :: q76_14
abbrev q76_16 : List RP := ⟨(some 15), none, false, (.ld false 1 (.t 14))⟩ :: q76_15
abbrev q76_17 : List RP := ⟨(some 14), none, false, (.fa 2 (.t 2))⟩ :: q76_16
abbrev q76_18 : List RP := ⟨(some 13), none, false, (.len (.t 12))⟩ :: q76_17
abbrev q76_19 : List RP := ⟨(some 12), none, false, (.ld false 1 (.t 11))⟩ :: q76_18
abbrev q76_20 : List RP := ⟨(some 11), none, false, (.fa 1 (.t 2))⟩ :: q76_19
abbrev q76_21 : List RP := ⟨(some 26), none, false, (.cal 82 [(.t 25), (.c (.int .i64 70))])⟩ :: []
abbrev q76_22 : List RP := ⟨(some 25), none, true, (.cal 50 [(.c (.int .i64 1)), (.c (.int .i64 8)), (.t 24)])⟩ :: q76_21
abbrev q76_23 : List RP := ⟨(some 24), none, true, (.bslice 1 2 [(.int .i64 0)] [(0, (.t 21)), (1, (.t 23))])⟩ :: q76_22
abbrev q76_24 : List RP := ⟨(some 23), none, false, (.ld false 1 (.t 22))⟩ :: q76_23
abbrev q76_25 : List RP := ⟨(some 22), none, false, (.fa 4 (.t 2))⟩ :: q76_24
abbrev q76_26 : List RP := ⟨(some 21), none, false, (.ld false 1 (.t 20))⟩ :: q76_25
abbrev q76_27 : List RP := ⟨(some 20), none, false, (.fa 3 (.t 2))⟩ :: q76_26
abbrev q76_28 : List RP := ⟨(some 31), none, false, (.cal 82 [(.t 30), (.c (.int .i64 70))])⟩ :: []
abbrev q76_29 : List RP := ⟨(some 30), none, true, (.cal 50 [(.c (.int .i64 1)), (.c (.int .i64 8)), (.t 29)])⟩ :: q76_28
abbrev q76_30 : List RP := ⟨(some 29), none, true, (.bslice 1 1 [(.int .i64 0)] [(0, (.t 28))])⟩ :: q76_29
abbrev q76_31 : List RP := ⟨(some 28), none, false, (.ld false 1 (.t 27))⟩ :: q76_30
abbrev q76_32 : List RP := ⟨(some 27), none, false, (.fa 5 (.t 2))⟩ :: q76_31
abbrev q76_33 : List RP := ⟨(some 36), none, false, (.cal 82 [(.t 35), (.c (.int .i64 70))])⟩ :: []
abbrev q76_34 : List RP := ⟨(some 35), none, true, (.cal 50 [(.c (.int .i64 1)), (.c (.int .i64 16)), (.t 34)])⟩ :: q76_33
abbrev q76_35 : List RP := ⟨(some 34), none, true, (.bslice 1 1 [(.int .i64 0)] [(0, (.t 33))])⟩ :: q76_34
abbrev q76_36 : List RP := ⟨(some 33), none, false, (.ld false 1 (.t 32))⟩ :: q76_35
abbrev q76_37 : List RP := ⟨(some 32), none, false, (.fa 6 (.t 2))⟩ :: q76_36
abbrev q76_38 : List RP := ⟨(some 41), none, false, (.cal 82 [(.t 40), (.c (.int .i64 70))])⟩ :: []
abbrev q76_39 : List RP := ⟨(some 40), none, true, (.cal 50 [(.c (.int .i64 1)), (.c (.int .i64 64)), (.t 39)])⟩ :: q76_38
abbrev q76_40 : List RP := ⟨(some 39), none, true, (.bslice 1 1 [(.int .i64 0)] [(0, (.t 38))])⟩ :: q76_39
abbrev q76_41 : List RP := ⟨(some 38), none, false, (.ld false 1 (.t 37))⟩ :: q76_40
abbrev q76_42 : List RP := ⟨(some 37), none, false, (.fa 7 (.t 2))⟩ :: q76_41
abbrev q76_43 : RQ := (.reg q76_42)
abbrev q76_44 : RQ := (.seq (.reg q76_37) q76_43)
abbrev q76_45 : RQ := (.seq (.reg q76_32) q76_44)
abbrev q76_46 : RQ := (.seq (.reg q76_27) q76_45)
abbrev q76_47 : RQ := (.seq (.reg q76_20) q76_46)
abbrev q76_48 : RQ := (.seq (.reg q76_11) q76_47)
abbrev q76_49 : RQ := (.seq (.reg q76_5) q76_48)
abbrev q76 : RQ := (.seq (.reg q76_1) q76_49)
theorem l76 : ∃ c, f76.body = some c ∧ liteC prog f76.ntmps c = some q76 := ⟨_, rfl, by kernel_rfl⟩
theorem e76 : prog.funcs[76]? = some f76 := by kernel_rfl
theorem r76 : mapO (resOf prog) f76.results.toList = some [] := by kernel_rfl
theorem n76 : f76.ntmps = 42 := rfl
def T76 : TE := .fn q76 [] 42
theorem te76 : TEOK prog 76 T76 := te_fn e76 l76 rfl r76 n76

abbrev q77_1 : List RP := ⟨(some 1), none, false, (.box (.t 0))⟩ :: []
abbrev q77_2 : List RP := ⟨(some 9), none, false, (.cal 82 [(.t 8), (.c (.int .i64 8))])⟩ :: []
abbrev q77_3 : List RP := ⟨(some 8), none, true, (.bin .leq (.t 7) (.c (.int .i64 64)))⟩ :: q77_2
abbrev q77_4 : List RP := ⟨(some 7), none, false, (.len (.t 6))⟩ :: q77_3
abbrev q77_5 : List RP := ⟨(some 6), none, false, (.ld false 1 (.t 5))⟩ :: q77_4
abbrev q77_6 : List RP := ⟨(some 5), none, false, (.fa 0 (.t 4))⟩ :: q77_5
abbrev q77_7 : List RP := ⟨(some 4), none, false, (.fa 0 (.t 1))⟩ :: q77_6
abbrev q77_8 : List RP := ⟨(some 14), none, false, (.mv (.c (.int .i64 0)))⟩ :: []
abbrev q77_9 : List RP := ⟨(some 13), none, false, (.len (.t 12))⟩ :: q77_8
abbrev q77_10 : List RP := ⟨(some 12), none, false, (.ld false 1 (.t 11))⟩ :: q77_9
abbrev q77_11 : List RP := ⟨(some 11), none, false, (.fa 0 (.t 10))⟩ :: q77_10
abbrev q77_12 : List RP := ⟨(some 10), none, false, (.fa 0 (.t 1))⟩ :: q77_11
abbrev q77_13 : List RP := ⟨(some 15), none, false, (.bin .lss (.t 14) (.t 13))⟩ :: []
abbrev q77_14 : RQ := (.exit 0)
abbrev q77_15 : List RP := ⟨none, none, false, (.st 6 (.t 3) (.t 18))⟩ :: []
abbrev q77_16 : List RP := ⟨(some 2), none, false, (.mv (.t 16))⟩ :: q77_15
abbrev q77_17 : List RP := ⟨(some 3), none, false, (.alloc [(.int .i64 0), (.int .i64 0), (.int .i64 0), (.int .u8 0), (.int .u64 0), (.int .u64 0)])⟩ :: q77_16
abbrev q77_18 : List RP := ⟨(some 18), none, false, (.ld true 6 (.t 17))⟩ :: q77_17
abbrev q77_19 : List RP := ⟨(some 17), none, false, (.ias 6 (.t 12) (.t 14))⟩ :: q77_18
abbrev q77_20 : List RP := ⟨(some 16), none, false, (.mv (.t 14))⟩ :: q77_19
abbrev q77_21 : List RP := ⟨(some 37), none, false, (.cal 82 [(.t 36), (.c (.int .i64 8))])⟩ :: []
abbrev q77_22 : List RP := ⟨(some 36), none, true, (.pick (.t 29) (.t 35) (.c (.bool false)))⟩ :: q77_21
abbrev q77_23 : List RP := ⟨(some 35), (some (29, true)), false, (.cal 54 [(.t 30), (.t 32), (.t 34)])⟩ :: q77_22
abbrev q77_24 : List RP := ⟨(some 34), (some (29, true)), true, (.ld false 1 (.t 33))⟩ :: q77_23
abbrev q77_25 : List RP := ⟨(some 33), (some (29, true)), false, (.fa 2 (.t 3))⟩ :: q77_24
abbrev q77_26 : List RP := ⟨(some 32), (some (29, true)), true, (.ld false 1 (.t 31))⟩ :: q77_25
abbrev q77_27 : List RP := ⟨(some 31), (some (29, true)), false, (.fa 1 (.t 3))⟩ :: q77_26
abbrev q77_28 : List RP := ⟨(some 30), (some (29, true)), true, (.ld true 12 (.t 1))⟩ :: q77_27
abbrev q77_29 : List RP := ⟨(some 29), none, false, (.mv (.t 28))⟩ :: q77_28
abbrev q77_30 : List RP := ⟨(some 28), none, false, (.pick (.t 24) (.t 27) (.c (.bool false)))⟩ :: q77_29
abbrev q77_31 : List RP := ⟨(some 27), (some (24, true)), false, (.bin .eql (.t 26) (.c (.int .i64 0)))⟩ :: q77_30
abbrev q77_32 : List RP := ⟨(some 26), (some (24, true)), false, (.cal 31 [(.t 25)])⟩ :: q77_31
abbrev q77_33 : List RP := ⟨(some 25), (some (24, true)), true, (.ld true 6 (.t 3))⟩ :: q77_32
abbrev q77_34 : List RP := ⟨(some 24), none, false, (.mv (.t 23))⟩ :: q77_33
abbrev q77_35 : List RP := ⟨(some 23), none, false, (.bin .eql (.t 20) (.t 22))⟩ :: q77_34
abbrev q77_36 : List RP := ⟨(some 22), none, false, (.bin .add (.t 21) (.c (.int .i64 1)))⟩ :: q77_35
abbrev q77_37 : List RP := ⟨(some 21), none, false, (.mv (.t 2))⟩ :: q77_36
abbrev q77_38 : List RP := ⟨(some 20), none, false, (.ld false 1 (.t 19))⟩ :: q77_37
abbrev q77_39 : List RP := ⟨(some 19), none, false, (.fa 0 (.t 3))⟩ :: q77_38
abbrev q77_40 : RQ := (.reg q77_39)
abbrev q77_41 : List RP := ⟨(some 14), none, false, (.mv (.t 38))⟩ :: []
abbrev q77_42 : List RP := ⟨(some 38), none, false, (.bin .add (.t 14) (.c (.int .i64 1)))⟩ :: q77_41
abbrev q77_43 : RQ := (.reg q77_42)
abbrev q77_44 : RQ := (.seq (.block 1 (.seq (.reg q77_20) q77_40)) q77_43)
abbrev q77_45 : RQ := (.seq (.cond (.t 15) .skip q77_14) q77_44)
abbrev q77_46 : RQ := (.seq (.reg q77_13) q77_45)
abbrev q77_47 : RQ := (.block 0 (.loop q77_46))
abbrev q77_48 : RQ := (.seq (.reg q77_12) q77_47)
abbrev q77_49 : RQ := (.seq (.reg q77_7) q77_48)
abbrev q77 : RQ := (.seq (.reg q77_1) q77_49)
theorem l77 : ∃ c, f77.body = some c ∧ liteC prog f77.ntmps c = some q77 := ⟨_, rfl, by kernel_rfl⟩
theorem e77 : prog.funcs[77]? = some f77 := by kernel_rfl
theorem r77 : mapO (resOf prog) f77.results.toList = some [] := by kernel_rfl
theorem n77 : f77.ntmps = 39 := rfl
def T77 : TE := .fn q77 [] 39
theorem te77 : TEOK prog 77 T77 := te_fn e77 l77 rfl r77 n77

abbrev q78_1 : List RP := ⟨(some 1), none, false, (.box (.t 0))⟩ :: []
abbrev q78_2 : List (Bool × RP) := (false, ⟨(some 17), none, true, (.pick (.t 10) (.t 16) (.c (.bool false)))⟩) :: []
abbrev q78_3 : List (Bool × RP) := (false, ⟨(some 16), (some (10, true)), false, (.cal 83 [(.t 13), (.t 15)])⟩) :: q78_2
abbrev q78_4 : List (Bool × RP) := (false, ⟨(some 15), (some (10, true)), true, (.cal 81 [(.t 14)])⟩) :: q78_3
abbrev q78_5 : List (Bool × RP) := (false, ⟨(some 14), (some (10, true)), true, (.ld true 12 (.t 1))⟩) :: q78_4
abbrev q78_6 : List (Bool × RP) := (false, ⟨(some 13), (some (10, true)), true, (.ld false 1 (.t 12))⟩) :: q78_5
abbrev q78_7 : List (Bool × RP) := (false, ⟨(some 12), (some (10, true)), false, (.fa 1 (.t 11))⟩) :: q78_6
abbrev q78_8 : List (Bool × RP) := (false, ⟨(some 11), (some (10, true)), false, (.fa 0 (.t 1))⟩) :: q78_7
abbrev q78_9 : List (Bool × RP) := (false, ⟨(some 10), none, false, (.mv (.t 9))⟩) :: q78_8
abbrev q78_10 : List (Bool × RP) := (false, ⟨(some 9), none, false, (.bin .leq (.t 5) (.t 8))⟩) :: q78_9
abbrev q78_11 : List (Bool × RP) := (false, ⟨(some 8), none, false, (.ld false 1 (.t 7))⟩) :: q78_10
abbrev q78_12 : List (Bool × RP) := (false, ⟨(some 7), none, false, (.fa 5 (.t 6))⟩) :: q78_11
abbrev q78_13 : List (Bool × RP) := (false, ⟨(some 6), none, false, (.fa 4 (.t 1))⟩) :: q78_12
abbrev q78_14 : List (Bool × RP) := (false, ⟨(some 5), none, false, (.len (.t 4))⟩) :: q78_13
abbrev q78_15 : List (Bool × RP) := (false, ⟨(some 4), none, false, (.ld false 1 (.t 3))⟩) :: q78_14
abbrev q78_16 : List (Bool × RP) := (false, ⟨(some 3), none, false, (.fa 1 (.t 2))⟩) :: q78_15
abbrev q78_17 : List (Bool × RP) := (false, ⟨(some 2), none, false, (.fa 0 (.t 1))⟩) :: q78_16
abbrev q78_18 : List RP := ⟨(some 18), none, false, (.cal 82 [(.t 17), (.c (.int .i64 8))])⟩ :: []
abbrev q78_19 : RQ := (.drw q78_17 q78_18)
abbrev q78 : RQ := (.seq (.reg q78_1) q78_19)
theorem l78 : ∃ c, f78.body = some c ∧ liteC prog f78.ntmps c = some q78 := ⟨_, rfl, by kernel_rfl⟩
theorem e78 : prog.funcs[78]? = some f78 := by kernel_rfl
theorem r78 : mapO (resOf prog) f78.results.toList = some [] := by kernel_rfl
theorem n78 : f78.ntmps = 19 := rfl
def T78 : TE := .fn q78 [] 19
theorem te78 : TEOK prog 78 T78 := te_fn e78 l78 rfl r78 n78

abbrev q79_1 : List RP := ⟨(some 1), none, false, (.box (.t 0))⟩ :: []
abbrev q79_2 : List RP := ⟨(some 13), none, false, (.cal 82 [(.t 12), (.c (.int .i64 8))])⟩ :: []
abbrev q79_3 : List RP := ⟨(some 12), none, true, (.bin .eql (.t 11) (.c (.int .i64 0)))⟩ :: q79_2
abbrev q79_4 : List RP := ⟨(some 11), none, false, (.cal 21 [(.t 4), (.t 7), (.t 10)])⟩ :: q79_3
abbrev q79_5 : List RP := ⟨(some 10), none, true, (.ld false 1 (.t 9))⟩ :: q79_4
abbrev q79_6 : List RP := ⟨(some 9), none, false, (.fa 6 (.t 8))⟩ :: q79_5
abbrev q79_7 : List RP := ⟨(some 8), none, false, (.fa 4 (.t 1))⟩ :: q79_6
abbrev q79_8 : List RP := ⟨(some 7), none, true, (.ld false 1 (.t 6))⟩ :: q79_7
abbrev q79_9 : List RP := ⟨(some 6), none, false, (.fa 7 (.t 5))⟩ :: q79_8
abbrev q79_10 : List RP := ⟨(some 5), none, false, (.fa 4 (.t 1))⟩ :: q79_9
abbrev q79_11 : List RP := ⟨(some 4), none, true, (.ld true 2 (.t 3))⟩ :: q79_10
abbrev q79_12 : List RP := ⟨(some 3), none, false, (.fa 2 (.t 2))⟩ :: q79_11
abbrev q79_13 : List RP := ⟨(some 2), none, false, (.fa 0 (.t 1))⟩ :: q79_12
abbrev q79_14 : RQ := (.reg q79_13)
abbrev q79 : RQ := (.seq (.reg q79_1) q79_14)
theorem l79 : ∃ c, f79.body = some c ∧ liteC prog f79.ntmps c = some q79 := ⟨_, rfl, by kernel_rfl⟩
theorem e79 : prog.funcs[79]? = some f79 := by kernel_rfl
theorem r79 : mapO (resOf prog) f79.results.toList = some [] := by kernel_rfl
theorem n79 : f79.ntmps = 14 := rfl
def T79 : TE := .fn q79 [] 14
theorem te79 : TEOK prog 79 T79 := te_fn e79 l79 rfl r79 n79

abbrev q81_1 : List RP := ⟨(some 2), none, false, (.mv (.c .nils))⟩ :: []
abbrev q81_2 : List RP := ⟨(some 1), none, false, (.box (.t 0))⟩ :: q81_1
abbrev q81_3 : List RP := ⟨(some 2), none, false, (.mv (.t 6))⟩ :: []
abbrev q81_4 : List RP := ⟨(some 6), none, false, (.cal 85 [(.t 5), (.f 86)])⟩ :: q81_3
abbrev q81_5 : List RP := ⟨(some 5), none, true, (.ld false 1 (.t 4))⟩ :: q81_4
abbrev q81_6 : List RP := ⟨(some 4), none, false, (.fa 0 (.t 3))⟩ :: q81_5
abbrev q81_7 : List RP := ⟨(some 3), none, false, (.fa 0 (.t 1))⟩ :: q81_6
abbrev q81_8 : RQ := (.seq (.reg q81_7) .ret)
abbrev q81 : RQ := (.seq (.reg q81_2) q81_8)
theorem l81 : ∃ c, f81.body = some c ∧ liteC prog f81.ntmps c = some q81 := ⟨_, rfl, by kernel_rfl⟩
theorem e81 : prog.funcs[81]? = some f81 := by kernel_rfl
theorem r81 : mapO (resOf prog) f81.results.toList = some [(.t 2)] := by kernel_rfl
theorem n81 : f81.ntmps = 7 := rfl
def T81 : TE := .fn q81 [(.t 2)] 7
theorem te81 : TEOK prog 81 T81 := te_fn e81 l81 rfl r81 n81

abbrev q82_1 : List RP := ⟨(some 5), none, false, (.not (.t 4))⟩ :: []
abbrev q82_2 : List RP := ⟨(some 4), none, false, (.mv (.t 0))⟩ :: q82_1
abbrev q82_3 : List RP := ⟨none, none, false, (.pan (.t 7))⟩ :: []
abbrev q82_4 : List RP := ⟨(some 7), none, false, (.mki 25 (.t 6))⟩ :: q82_3
abbrev q82_5 : List RP := ⟨(some 6), none, false, (.mv (.t 1))⟩ :: q82_4
abbrev q82_6 : RQ := (.reg q82_5)
abbrev q82_7 : RQ := (.cond (.t 5) q82_6 .skip)
abbrev q82 : RQ := (.seq (.reg q82_2) q82_7)
theorem l82 : ∃ c, f82.body = some c ∧ liteC prog f82.ntmps c = some q82 := ⟨_, rfl, by kernel_rfl⟩
theorem e82 : prog.funcs[82]? = some f82 := by kernel_rfl
theorem r82 : mapO (resOf prog) f82.results.toList = some [] := by kernel_rfl
theorem n82 : f82.ntmps = 8 := rfl
def T82 : TE := .fn q82 [] 8
theorem te82 : TEOK prog 82 T82 := te_fn e82 l82 rfl r82 n82

abbrev q83_1 : List RP := ⟨(some 4), none, false, (.mv (.c (.bool false)))⟩ :: []
abbrev q83_2 : List RP := ⟨(some 10), none, false, (.bin .neq (.t 7) (.t 9))⟩ :: []
abbrev q83_3 : List RP := ⟨(some 9), none, false, (.len (.t 8))⟩ :: q83_2
abbrev q83_4 : List RP := ⟨(some 8), none, false, (.mv (.t 1))⟩ :: q83_3
abbrev q83_5 : List RP := ⟨(some 7), none, false, (.len (.t 6))⟩ :: q83_4
abbrev q83_6 : List RP := ⟨(some 6), none, false, (.mv (.t 0))⟩ :: q83_5
abbrev q83_7 : List RP := ⟨(some 4), none, false, (.mv (.c (.bool false)))⟩ :: []
abbrev q83_8 : RQ := (.seq (.reg q83_7) .ret)
abbrev q83_9 : RQ := (.cond (.t 10) q83_8 .skip)
abbrev q83_10 : List RP := ⟨(some 13), none, false, (.mv (.c (.int .i64 0)))⟩ :: []
abbrev q83_11 : List RP := ⟨(some 12), none, false, (.len (.t 11))⟩ :: q83_10
abbrev q83_12 : List RP := ⟨(some 11), none, false, (.mv (.t 0))⟩ :: q83_11
abbrev q83_13 : List RP := ⟨(some 14), none, false, (.bin .lss (.t 13) (.t 12))⟩ :: []
abbrev q83_14 : RQ := (.exit 0)
abbrev q83_15 : List RP := ⟨(some 5), none, false, (.mv (.t 15))⟩ :: []
abbrev q83_16 : List RP := ⟨(some 15), none, false, (.mv (.t 13))⟩ :: q83_15
abbrev q83_17 : List (Bool × RP) := (false, ⟨(some 24), none, false, (.bin .neq (.t 19) (.t 23))⟩) :: []
abbrev q83_18 : List (Bool × RP) := (false, ⟨(some 23), none, false, (.ld false 1 (.t 22))⟩) :: q83_17
abbrev q83_19 : List (Bool × RP) := (false, ⟨(some 22), none, false, (.ias 1 (.t 20) (.t 21))⟩) :: q83_18
abbrev q83_20 : List (Bool × RP) := (false, ⟨(some 21), none, false, (.mv (.t 5))⟩) :: q83_19
abbrev q83_21 : List (Bool × RP) := (false, ⟨(some 20), none, false, (.mv (.t 1))⟩) :: q83_20
abbrev q83_22 : List (Bool × RP) := (false, ⟨(some 19), none, false, (.ld false 1 (.t 18))⟩) :: q83_21
abbrev q83_23 : List (Bool × RP) := (false, ⟨(some 18), none, false, (.ias 1 (.t 16) (.t 17))⟩) :: q83_22
abbrev q83_24 : List (Bool × RP) := (false, ⟨(some 17), none, false, (.mv (.t 5))⟩) :: q83_23
abbrev q83_25 : List (Bool × RP) := (false, ⟨(some 16), none, false, (.mv (.t 0))⟩) :: q83_24
abbrev q83_26 : List RP := ⟨(some 4), none, false, (.mv (.c (.bool false)))⟩ :: []
abbrev q83_27 : RQ := (.seq (.reg q83_26) .ret)
abbrev q83_28 : RQ := (.cond (.t 24) q83_27 .skip)
abbrev q83_29 : RQ := (.seq (.drw q83_25 []) q83_28)
abbrev q83_30 : List RP := ⟨(some 13), none, false, (.mv (.t 25))⟩ :: []
abbrev q83_31 : List RP := ⟨(some 25), none, false, (.bin .add (.t 13) (.c (.int .i64 1)))⟩ :: q83_30
abbrev q83_32 : RQ := (.reg q83_31)
abbrev q83_33 : RQ := (.seq (.block 1 (.seq (.reg q83_16) q83_29)) q83_32)
abbrev q83_34 : RQ := (.seq (.cond (.t 14) .skip q83_14) q83_33)
abbrev q83_35 : RQ := (.seq (.reg q83_13) q83_34)
abbrev q83_36 : RQ := (.block 0 (.loop q83_35))
abbrev q83_37 : List RP := ⟨(some 4), none, false, (.mv (.c (.bool true)))⟩ :: []
abbrev q83_38 : RQ := (.seq (.reg q83_37) .ret)
abbrev q83_39 : RQ := (.seq (.seq (.reg q83_12) q83_36) q83_38)
abbrev q83_40 : RQ := (.seq (.seq (.reg q83_6) q83_9) q83_39)
abbrev q83 : RQ := (.seq (.reg q83_1) q83_40)
theorem l83 : ∃ c, f83.body = some c ∧ liteC prog f83.ntmps c = some q83 := ⟨_, rfl, by kernel_rfl⟩
theorem e83 : prog.funcs[83]? = some f83 := by kernel_rfl
theorem r83 : mapO (resOf prog) f83.results.toList = some [(.t 4)] := by kernel_rfl
theorem n83 : f83.ntmps = 26 := rfl
def T83 : TE := .fn q83 [(.t 4)] 26
theorem te83 : TEOK prog 83 T83 := te_fn e83 l83 rfl r83 n83

abbrev q85_1 : List RP := ⟨(some 4), none, false, (.mv (.c .nils))⟩ :: []
abbrev q85_2 : List RP := ⟨(some 5), none, false, (.mv (.c .nils))⟩ :: []
abbrev q85_3 : List RP := ⟨(some 10), none, false, (.mv (.c (.int .i64 0)))⟩ :: []
abbrev q85_4 : List RP := ⟨(some 9), none, false, (.len (.t 8))⟩ :: q85_3
abbrev q85_5 : List RP := ⟨(some 8), none, false, (.mv (.t 0))⟩ :: q85_4
abbrev q85_6 : List RP := ⟨(some 11), none, false, (.bin .lss (.t 10) (.t 9))⟩ :: []
abbrev q85_7 : RQ := (.exit 0)
abbrev q85_8 : List RP := ⟨none, none, false, (.st 6 (.t 7) (.t 14))⟩ :: []
abbrev q85_9 : List RP := ⟨(some 6), none, false, (.mv (.t 12))⟩ :: q85_8
abbrev q85_10 : List RP := ⟨(some 7), none, false, (.alloc [(.int .i64 0), (.int .i64 0), (.int .i64 0), (.int .u8 0), (.int .u64 0), (.int .u64 0)])⟩ :: q85_9
abbrev q85_11 : List RP := ⟨(some 14), none, false, (.ld true 6 (.t 13))⟩ :: q85_10
abbrev q85_12 : List RP := ⟨(some 13), none, false, (.ias 6 (.t 8) (.t 10))⟩ :: q85_11
abbrev q85_13 : List RP := ⟨(some 12), none, false, (.mv (.t 10))⟩ :: q85_12
abbrev q85_14 : List RP := ⟨(some 17), none, false, (.cav (.t 15) [(.t 16)])⟩ :: []
abbrev q85_15 : List RP := ⟨(some 16), none, true, (.ld true 6 (.t 7))⟩ :: q85_14
abbrev q85_16 : List RP := ⟨(some 15), none, false, (.mv (.t 1))⟩ :: q85_15
abbrev q85_17 : List RP := ⟨(some 5), none, false, (.mv (.t 22))⟩ :: []
abbrev q85_18 : List RP := ⟨(some 22), none, false, (.app 1 8 [(.int .i64 0)] (.t 18) (.t 21))⟩ :: q85_17
abbrev q85_19 : List RP := ⟨(some 21), none, true, (.bslice 1 1 [(.int .i64 0)] [(0, (.t 20))])⟩ :: q85_18
abbrev q85_20 : List RP := ⟨(some 20), none, false, (.bin .add (.t 19) (.c (.int .i64 1)))⟩ :: q85_19
abbrev q85_21 : List RP := ⟨(some 19), none, false, (.mv (.t 6))⟩ :: q85_20
abbrev q85_22 : List RP := ⟨(some 18), none, false, (.mv (.t 5))⟩ :: q85_21
abbrev q85_23 : RQ := (.reg q85_22)
abbrev q85_24 : RQ := (.cond (.t 17) q85_23 .skip)
abbrev q85_25 : RQ := (.seq (.reg q85_16) q85_24)
abbrev q85_26 : List RP := ⟨(some 10), none, false, (.mv (.t 23))⟩ :: []
abbrev q85_27 : List RP := ⟨(some 23), none, false, (.bin .add (.t 10) (.c (.int .i64 1)))⟩ :: q85_26
abbrev q85_28 : RQ := (.reg q85_27)
abbrev q85_29 : RQ := (.seq (.block 1 (.seq (.reg q85_13) q85_25)) q85_28)
abbrev q85_30 : RQ := (.seq (.cond (.t 11) .skip q85_7) q85_29)
abbrev q85_31 : RQ := (.seq (.reg q85_6) q85_30)
abbrev q85_32 : RQ := (.block 0 (.loop q85_31))
abbrev q85_33 : List RP := ⟨(some 4), none, false, (.mv (.t 24))⟩ :: []
abbrev q85_34 : List RP := ⟨(some 24), none, false, (.mv (.t 5))⟩ :: q85_33
abbrev q85_35 : RQ := (.seq (.reg q85_34) .ret)
abbrev q85_36 : RQ := (.seq (.seq (.reg q85_5) q85_32) q85_35)
abbrev q85_37 : RQ := (.seq (.reg q85_2) q85_36)
abbrev q85 : RQ := (.seq (.reg q85_1) q85_37)
theorem l85 : ∃ c, f85.body = some c ∧ liteC prog f85.ntmps c = some q85 := ⟨_, rfl, by kernel_rfl⟩
theorem e85 : prog.funcs[85]? = some f85 := by kernel_rfl
theorem r85 : mapO (resOf prog) f85.results.toList = some [(.t 4)] := by kernel_rfl
theorem n85 : f85.ntmps = 25 := rfl
def T85 : TE := .fn q85 [(.t 4)] 25
theorem te85 : TEOK prog 85 T85 := te_fn e85 l85 rfl r85 n85

abbrev q86_1 : List RP := ⟨(some 2), none, false, (.mv (.c (.bool false)))⟩ :: []
abbrev q86_2 : List RP := ⟨(some 1), none, false, (.box (.t 0))⟩ :: q86_1
abbrev q86_3 : List RP := ⟨(some 2), none, false, (.mv (.t 5))⟩ :: []
abbrev q86_4 : List RP := ⟨(some 5), none, false, (.bin .eql (.t 4) (.c (.int .u8 1)))⟩ :: q86_3
abbrev q86_5 : List RP := ⟨(some 4), none, false, (.ld false 1 (.t 3))⟩ :: q86_4
abbrev q86_6 : List RP := ⟨(some 3), none, false, (.fa 3 (.t 1))⟩ :: q86_5
abbrev q86_7 : RQ := (.seq (.reg q86_6) .ret)
abbrev q86 : RQ := (.seq (.reg q86_2) q86_7)
theorem l86 : ∃ c, f86.body = some c ∧ liteC prog f86.ntmps c = some q86 := ⟨_, rfl, by kernel_rfl⟩
theorem e86 : prog.funcs[86]? = some f86 := by kernel_rfl
theorem r86 : mapO (resOf prog) f86.results.toList = some [(.t 2)] := by kernel_rfl
theorem n86 : f86.ntmps = 6 := rfl
def T86 : TE := .fn q86 [(.t 2)] 6
theorem te86 : TEOK prog 86 T86 := te_fn e86 l86 rfl r86 n86

abbrev q55b1 : List RP := ⟨(some 5), none, false, (.cal 76 [(.t 4)])⟩ :: []
abbrev q55b2 : List RP := ⟨(some 4), none, true, (.ld true 12 (.t 1))⟩ :: q55b1
abbrev q55b3 : List RP := ⟨(some 7), none, false, (.cal 77 [(.t 6)])⟩ :: []
abbrev q55b4 : List RP := ⟨(some 6), none, true, (.ld true 12 (.t 1))⟩ :: q55b3
abbrev q55b5 : List RP := ⟨(some 9), none, false, (.cal 78 [(.t 8)])⟩ :: []
abbrev q55b6 : List RP := ⟨(some 8), none, true, (.ld true 12 (.t 1))⟩ :: q55b5
abbrev q55b7 : List RP := ⟨(some 11), none, false, (.cal 79 [(.t 10)])⟩ :: []
abbrev q55b8 : List RP := ⟨(some 10), none, true, (.ld true 12 (.t 1))⟩ :: q55b7
abbrev q55b9 : List RP := ⟨none, none, false, (.st 1 (.t 2) (.c (.int .i64 0)))⟩ :: []
abbrev q55b10 : RQ := (.seq (.reg q55b9) .ret)
abbrev q55b11 : RQ := (.seq (.reg q55b8) q55b10)
abbrev q55b12 : RQ := (.seq (.reg q55b6) q55b11)
abbrev q55b13 : RQ := (.seq (.reg q55b4) q55b12)
abbrev q55g1 : List RP := ⟨(some 4), none, false, (.eqi true (.t 3))⟩ :: []
abbrev q55g2 : List RP := ⟨(some 3), none, false, (.mv (.t 1))⟩ :: q55g1
abbrev q55g3 : List RP := ⟨none, none, false, (.st 1 (.t 0) (.t 6))⟩ :: []
abbrev q55g4 : List RP := ⟨(some 6), none, false, (.tas 25 (.t 5))⟩ :: q55g3
abbrev q55g5 : List RP := ⟨(some 5), none, false, (.mv (.t 1))⟩ :: q55g4
abbrev q55g6 : RQ := (.reg q55g5)
abbrev q55g7 : RQ := (.cond (.t 4) q55g6 .skip)
def q55A : List RP := [⟨(some 1), none, false, (.box (.t 0))⟩, ⟨(some 2), none, false, (.alloc [(.int .i64 0)])⟩]
abbrev q55B : RQ := (.seq (.reg q55b2) q55b13)
abbrev q55G : RQ := (.seq (.reg q55g2) q55g7)
theorem df55 : DForm prog 55 q55A q55B q55G [(.c 2 false 1)] 75 [(.t 2)] 3 2 1 f55 f75 (dI0 f55.body) (dI1 f55.body) (dI0 f75.body) (dA f55.body) (dM f55.body) (dD f55.body) ((dA f75.body).getD 0 default) ((dA f75.body).getD 1 default)
    (dB f55.body) (dT f75.body) (mkArgs (dM f55.body).op) (callTys (dD f55.body).op) (callTys ((dA f75.body).getD 0 default).op) where
  hf := by kernel_rfl
  hb := by kernel_rfl
  hname := by rfl
  h0 := by kernel_rfl
  hB := by kernel_rfl
  hres := by kernel_rfl
  hom := by kernel_rfl
  hmg := by kernel_rfl
  hmd := by kernel_rfl
  htd := by decide
  hcaps := by kernel_rfl
  hod := by kernel_rfl
  hdg := by kernel_rfl
  hdd := by kernel_rfl
  hg := by kernel_rfl
  hgb := by kernel_rfl
  hgn := by rfl
  hG := by kernel_rfl
  hgr := by kernel_rfl
  hrc := by kernel_rfl
  hrg := by kernel_rfl
  hrd := by kernel_rfl
  ht1 := by decide
  has := by kernel_rfl
  hag := by kernel_rfl
  had := by kernel_rfl
  ht2 := by decide
  hcl := by decide
theorem nt55 : f55.ntmps = 12 := rfl
def T55 : TE := .df q55A q55B q55G [(.c 2 false 1)] 75 [(.t 2)] 3 2 1 12
theorem te55 : TEOK prog 55 T55 := ⟨_, _, _, _, _, _, _, _, _, _, _, _, _, _, _, df55, rfl⟩

def tabL : List (Nat × TE) := [(10, T10), (16, T16), (17, T17), (18, T18), (19, T19), (20, T20), (21, T21), (24, T24), (25, T25), (26, T26), (27, T27), (28, T28), (29, T29), (31, T31), (42, T42), (44, T44), (45, T45), (46, T46), (47, T47), (48, T48), (49, T49), (50, T50), (51, T51), (52, T52), (53, T53), (54, T54), (57, T57), (69, T69), (71, T71), (72, T72), (73, T73), (74, T74), (76, T76), (77, T77), (78, T78), (79, T79), (81, T81), (82, T82), (83, T83), (85, T85), (86, T86), (55, T55)]
theorem tabOK : TabOK prog (lkT tabL) := tabOK_of (List.forall_mem_cons.2 ⟨te10, List.forall_mem_cons.2 ⟨te16, List.forall_mem_cons.2 ⟨te17, List.forall_mem_cons.2 ⟨te18, List.forall_mem_cons.2 ⟨te19, List.forall_mem_cons.2 ⟨te20, List.forall_mem_cons.2 ⟨te21, List.forall_mem_cons.2 ⟨te24, List.forall_mem_cons.2 ⟨te25, List.forall_mem_cons.2 ⟨te26, List.forall_mem_cons.2 ⟨te27, List.forall_mem_cons.2 ⟨te28, List.forall_mem_cons.2 ⟨te29, List.forall_mem_cons.2 ⟨te31, List.forall_mem_cons.2 ⟨te42, List.forall_mem_cons.2 ⟨te44, List.forall_mem_cons.2 ⟨te45, List.forall_mem_cons.2 ⟨te46, List.forall_mem_cons.2 ⟨te47, List.forall_mem_cons.2 ⟨te48, List.forall_mem_cons.2 ⟨te49, List.forall_mem_cons.2 ⟨te50, List.forall_mem_cons.2 ⟨te51, List.forall_mem_cons.2 ⟨te52, List.forall_mem_cons.2 ⟨te53, List.forall_mem_cons.2 ⟨te54, List.forall_mem_cons.2 ⟨te57, List.forall_mem_cons.2 ⟨te69, List.forall_mem_cons.2 ⟨te71, List.forall_mem_cons.2 ⟨te72, List.forall_mem_cons.2 ⟨te73, List.forall_mem_cons.2 ⟨te74, List.forall_mem_cons.2 ⟨te76, List.forall_mem_cons.2 ⟨te77, List.forall_mem_cons.2 ⟨te78, List.forall_mem_cons.2 ⟨te79, List.forall_mem_cons.2 ⟨te81, List.forall_mem_cons.2 ⟨te82, List.forall_mem_cons.2 ⟨te83, List.forall_mem_cons.2 ⟨te85, List.forall_mem_cons.2 ⟨te86, List.forall_mem_cons.2 ⟨te55, (by intro x hx; cases hx)⟩⟩⟩⟩⟩⟩⟩⟩⟩⟩⟩⟩⟩⟩⟩⟩⟩⟩⟩⟩⟩⟩⟩⟩⟩⟩⟩⟩⟩⟩⟩⟩⟩⟩⟩⟩⟩⟩⟩⟩⟩⟩)
theorem mixed : prog.follows .mixedOrders = true := by kernel_rfl
end Go.Proofs.Ytffiicopifmmfaa
