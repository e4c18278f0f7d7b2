/-
  The looked-up code of functions of the program. Facts of the program alone, no condition.
-/
import Derived.Test.YtihkijccnimgbaaAiX
import Derived.Test.YtihkijccnimgbaaProg
import Derived.Tactics
namespace Go.Proofs.Ytihkijccnimgbaa
set_option linter.unusedSimpArgs false
set_option linter.unusedVariables false
set_option linter.unnecessarySimpa false
set_option linter.unusedSectionVars false
open Go.Proofs.Try
open Go.Proofs.Ytihkijccnimgbaa.Ai

def q3 : RQ :=
 (.seq (.reg [⟨(some 0), none, false, (.mv (.c (.bool false)))⟩])
 (.seq (.reg [⟨(some 26), none, false, (.cal 16 [(.c (.int .i64 0)), (.c (.int .i64 0)), (.c (.int .i64 0)), (.c (.int .u64 0))])⟩, ⟨(some 25), none, false, (.mv (.t 26))⟩, ⟨(some 27), none, false, (.ext (.t 25) 0)⟩, ⟨(some 28), none, false, (.ext (.t 25) 1)⟩, ⟨(some 1), none, false, (.alloc [(.int .i64 0), (.int .i64 0), (.int .i64 0), (.int .u8 0), (.int .u64 0), (.int .u64 0)])⟩, ⟨none, none, false, (.st 6 (.t 1) (.t 27))⟩, ⟨(some 2), none, false, (.mv (.t 28))⟩])
 (.seq (.reg [⟨(some 30), none, false, (.cal 16 [(.c (.int .i64 65)), (.c (.int .i64 0)), (.c (.int .i64 0)), (.c (.int .u64 0))])⟩, ⟨(some 29), none, false, (.mv (.t 30))⟩, ⟨(some 31), none, false, (.ext (.t 29) 0)⟩, ⟨(some 32), none, false, (.ext (.t 29) 1)⟩, ⟨(some 3), none, false, (.alloc [(.int .i64 0), (.int .i64 0), (.int .i64 0), (.int .u8 0), (.int .u64 0), (.int .u64 0)])⟩, ⟨none, none, false, (.st 6 (.t 3) (.t 31))⟩, ⟨(some 4), none, false, (.mv (.t 32))⟩])
 (.seq (.reg [⟨(some 34), none, false, (.cal 16 [(.c (.int .i64 1)), (.c (.int .i64 3)), (.c (.int .i64 0)), (.c (.int .u64 0))])⟩, ⟨(some 33), none, false, (.mv (.t 34))⟩, ⟨(some 35), none, false, (.ext (.t 33) 0)⟩, ⟨(some 36), none, false, (.ext (.t 33) 1)⟩, ⟨(some 5), none, false, (.alloc [(.int .i64 0), (.int .i64 0), (.int .i64 0), (.int .u8 0), (.int .u64 0), (.int .u64 0)])⟩, ⟨none, none, false, (.st 6 (.t 5) (.t 35))⟩, ⟨(some 6), none, false, (.mv (.t 36))⟩])
 (.seq (.reg [⟨(some 38), none, false, (.cal 16 [(.c (.int .i64 1)), (.c (.int .i64 0)), (.c (.int .i64 0)), (.c (.int .u64 4611686018427387905))])⟩, ⟨(some 37), none, false, (.mv (.t 38))⟩, ⟨(some 39), none, false, (.ext (.t 37) 0)⟩, ⟨(some 40), none, false, (.ext (.t 37) 1)⟩, ⟨(some 7), none, false, (.alloc [(.int .i64 0), (.int .i64 0), (.int .i64 0), (.int .u8 0), (.int .u64 0), (.int .u64 0)])⟩, ⟨none, none, false, (.st 6 (.t 7) (.t 39))⟩, ⟨(some 8), none, false, (.mv (.t 40))⟩])
 (.seq (.seq (.reg [⟨(some 41), none, false, (.mv (.c (.bool false)))⟩, ⟨(some 42), (some (41, false)), false, (.cal 17 [])⟩, ⟨(some 43), (some (41, false)), false, (.not (.t 42))⟩, ⟨(some 44), none, false, (.pick (.t 41) (.c (.bool true)) (.t 43))⟩, ⟨(some 45), none, false, (.mv (.t 44))⟩, ⟨(some 46), (some (45, false)), false, (.mv (.t 2))⟩, ⟨(some 47), (some (45, false)), false, (.bin .neq (.t 46) (.c (.int .i64 2)))⟩, ⟨(some 48), none, false, (.pick (.t 45) (.c (.bool true)) (.t 47))⟩, ⟨(some 49), none, false, (.mv (.t 48))⟩, ⟨(some 50), (some (49, false)), false, (.mv (.t 4))⟩, ⟨(some 51), (some (49, false)), false, (.bin .neq (.t 50) (.c (.int .i64 2)))⟩, ⟨(some 52), none, false, (.pick (.t 49) (.c (.bool true)) (.t 51))⟩, ⟨(some 53), none, false, (.mv (.t 52))⟩, ⟨(some 54), (some (53, false)), false, (.mv (.t 6))⟩, ⟨(some 55), (some (53, false)), false, (.bin .neq (.t 54) (.c (.int .i64 2)))⟩, ⟨(some 56), none, false, (.pick (.t 53) (.c (.bool true)) (.t 55))⟩, ⟨(some 57), none, false, (.mv (.t 56))⟩, ⟨(some 58), (some (57, false)), false, (.mv (.t 8))⟩, ⟨(some 59), (some (57, false)), false, (.bin .neq (.t 58) (.c (.int .i64 2)))⟩, ⟨(some 60), none, false, (.pick (.t 57) (.c (.bool true)) (.t 59))⟩])
 (.cond (.t 60)
 (.seq (.reg [⟨(some 0), none, false, (.mv (.c (.bool false)))⟩])
 .ret)
 .skip))
 (.seq (.reg [⟨(some 62), none, false, (.cal 16 [(.c (.int .i64 1)), (.c (.int .i64 0)), (.c (.int .i64 2)), (.c (.int .u64 7))])⟩, ⟨(some 61), none, false, (.mv (.t 62))⟩, ⟨(some 63), none, false, (.ext (.t 61) 0)⟩, ⟨(some 64), none, false, (.ext (.t 61) 1)⟩, ⟨(some 9), none, false, (.alloc [(.int .i64 0), (.int .i64 0), (.int .i64 0), (.int .u8 0), (.int .u64 0), (.int .u64 0)])⟩, ⟨none, none, false, (.st 6 (.t 9) (.t 63))⟩, ⟨(some 10), none, false, (.mv (.t 64))⟩])
 (.seq (.reg [⟨(some 66), none, true, (.ld true 6 (.t 9))⟩, ⟨(some 67), none, false, (.cal 18 [(.t 66), (.c (.int .u8 3)), (.c (.int .u64 0))])⟩, ⟨(some 65), none, false, (.mv (.t 67))⟩, ⟨(some 68), none, false, (.ext (.t 65) 0)⟩, ⟨(some 69), none, false, (.ext (.t 65) 1)⟩, ⟨(some 2), none, false, (.mv (.t 69))⟩])
 (.seq (.reg [⟨(some 71), none, true, (.ld true 6 (.t 9))⟩, ⟨(some 72), none, false, (.cal 18 [(.t 71), (.c (.int .u8 4)), (.c (.int .u64 0))])⟩, ⟨(some 70), none, false, (.mv (.t 72))⟩, ⟨(some 73), none, false, (.ext (.t 70) 0)⟩, ⟨(some 74), none, false, (.ext (.t 70) 1)⟩, ⟨(some 4), none, false, (.mv (.t 74))⟩])
 (.seq (.reg [⟨(some 76), none, true, (.ld true 6 (.t 9))⟩, ⟨(some 77), none, false, (.cal 18 [(.t 76), (.c (.int .u8 6)), (.c (.int .u64 0))])⟩, ⟨(some 75), none, false, (.mv (.t 77))⟩, ⟨(some 78), none, false, (.ext (.t 75) 0)⟩, ⟨(some 79), none, false, (.ext (.t 75) 1)⟩, ⟨(some 6), none, false, (.mv (.t 79))⟩])
 (.seq (.reg [⟨(some 80), none, false, (.fa 3 (.t 9))⟩, ⟨none, none, false, (.st 1 (.t 80) (.c (.int .u8 3)))⟩])
 (.seq (.reg [⟨(some 82), none, true, (.ld true 6 (.t 9))⟩, ⟨(some 83), none, false, (.cal 18 [(.t 82), (.c (.int .u8 4)), (.c (.int .u64 9))])⟩, ⟨(some 81), none, false, (.mv (.t 83))⟩, ⟨(some 84), none, false, (.ext (.t 81) 0)⟩, ⟨(some 85), none, false, (.ext (.t 81) 1)⟩, ⟨(some 11), none, false, (.alloc [(.int .i64 0), (.int .i64 0), (.int .i64 0), (.int .u8 0), (.int .u64 0), (.int .u64 0)])⟩, ⟨none, none, false, (.st 6 (.t 11) (.t 84))⟩, ⟨(some 8), none, false, (.mv (.t 85))⟩])
 (.seq (.reg [⟨(some 87), none, true, (.ld true 6 (.t 11))⟩, ⟨(some 88), none, false, (.cal 18 [(.t 87), (.c (.int .u8 1)), (.c (.int .u64 0))])⟩, ⟨(some 86), none, false, (.mv (.t 88))⟩, ⟨(some 89), none, false, (.ext (.t 86) 0)⟩, ⟨(some 90), none, false, (.ext (.t 86) 1)⟩, ⟨(some 12), none, false, (.alloc [(.int .i64 0), (.int .i64 0), (.int .i64 0), (.int .u8 0), (.int .u64 0), (.int .u64 0)])⟩, ⟨none, none, false, (.st 6 (.t 12) (.t 89))⟩, ⟨(some 13), none, false, (.mv (.t 90))⟩])
 (.seq (.seq (.reg [⟨(some 91), none, false, (.mv (.t 2))⟩, ⟨(some 92), none, false, (.bin .neq (.t 91) (.c (.int .i64 150)))⟩, ⟨(some 93), none, false, (.mv (.t 92))⟩, ⟨(some 94), (some (93, false)), false, (.mv (.t 4))⟩, ⟨(some 95), (some (93, false)), false, (.bin .neq (.t 94) (.c (.int .i64 2)))⟩, ⟨(some 96), none, false, (.pick (.t 93) (.c (.bool true)) (.t 95))⟩, ⟨(some 97), none, false, (.mv (.t 96))⟩, ⟨(some 98), (some (97, false)), false, (.mv (.t 6))⟩, ⟨(some 99), (some (97, false)), false, (.bin .neq (.t 98) (.c (.int .i64 2)))⟩, ⟨(some 100), none, false, (.pick (.t 97) (.c (.bool true)) (.t 99))⟩, ⟨(some 101), none, false, (.mv (.t 100))⟩, ⟨(some 102), (some (101, false)), false, (.mv (.t 8))⟩, ⟨(some 103), (some (101, false)), false, (.bin .neq (.t 102) (.c (.int .i64 0)))⟩, ⟨(some 104), none, false, (.pick (.t 101) (.c (.bool true)) (.t 103))⟩, ⟨(some 105), none, false, (.mv (.t 104))⟩, ⟨(some 106), (some (105, false)), false, (.fa 5 (.t 11))⟩, ⟨(some 107), (some (105, false)), false, (.ld false 1 (.t 106))⟩, ⟨(some 108), (some (105, false)), false, (.bin .neq (.t 107) (.c (.int .u64 9)))⟩, ⟨(some 109), none, false, (.pick (.t 105) (.c (.bool true)) (.t 108))⟩, ⟨(some 110), none, false, (.mv (.t 109))⟩, ⟨(some 111), (some (110, false)), false, (.mv (.t 13))⟩, ⟨(some 112), (some (110, false)), false, (.bin .neq (.t 111) (.c (.int .i64 150)))⟩, ⟨(some 113), none, false, (.pick (.t 110) (.c (.bool true)) (.t 112))⟩])
 (.cond (.t 113)
 (.seq (.reg [⟨(some 0), none, false, (.mv (.c (.bool false)))⟩])
 .ret)
 .skip))
 (.seq (.reg [⟨(some 115), none, true, (.build [(.int .u64 0), (.int .i64 0)] [(1, 1, (.c (.int .i64 2)))])⟩, ⟨(some 116), none, false, (.cal 19 [(.t 115), (.c (.int .i64 8)), (.c (.int .i64 3)), (.c (.int .u64 8))])⟩, ⟨(some 114), none, false, (.mv (.t 116))⟩, ⟨(some 117), none, false, (.ext (.t 114) 0)⟩, ⟨(some 118), none, false, (.ext (.t 114) 1)⟩, ⟨(some 14), none, false, (.alloc [(.int .u64 0), (.int .i64 0)])⟩, ⟨none, none, false, (.st 2 (.t 14) (.t 117))⟩, ⟨(some 2), none, false, (.mv (.t 118))⟩])
 (.seq (.reg [⟨(some 120), none, true, (.build [(.int .u64 0), (.int .i64 0)] [(1, 1, (.c (.int .i64 3)))])⟩, ⟨(some 121), none, false, (.cal 19 [(.t 120), (.c (.int .i64 8)), (.c (.int .i64 3)), (.c (.int .u64 7))])⟩, ⟨(some 119), none, false, (.mv (.t 121))⟩, ⟨(some 122), none, false, (.ext (.t 119) 0)⟩, ⟨(some 123), none, false, (.ext (.t 119) 1)⟩, ⟨(some 4), none, false, (.mv (.t 123))⟩])
 (.seq (.reg [⟨(some 125), none, true, (.build [(.int .u64 0), (.int .i64 0)] [(1, 1, (.c (.int .i64 3)))])⟩, ⟨(some 126), none, false, (.cal 20 [(.t 125), (.c (.int .i64 8)), (.c (.int .i64 3)), (.c (.int .u64 7))])⟩, ⟨(some 124), none, false, (.mv (.t 126))⟩, ⟨(some 127), none, false, (.ext (.t 124) 0)⟩, ⟨(some 128), none, false, (.ext (.t 124) 1)⟩, ⟨(some 15), none, false, (.mv (.t 127))⟩, ⟨(some 6), none, false, (.mv (.t 128))⟩])
 (.seq (.reg [⟨(some 130), none, true, (.build [(.int .u64 0), (.int .i64 0)] [(1, 1, (.c (.int .i64 3)))])⟩, ⟨(some 131), none, false, (.cal 20 [(.t 130), (.c (.int .i64 8)), (.c (.int .i64 3)), (.c (.int .u64 8))])⟩, ⟨(some 129), none, false, (.mv (.t 131))⟩, ⟨(some 132), none, false, (.ext (.t 129) 0)⟩, ⟨(some 133), none, false, (.ext (.t 129) 1)⟩, ⟨(some 16), none, false, (.mv (.t 132))⟩, ⟨(some 8), none, false, (.mv (.t 133))⟩])
 (.seq (.seq (.reg [⟨(some 134), none, false, (.mv (.t 2))⟩, ⟨(some 135), none, false, (.bin .neq (.t 134) (.c (.int .i64 0)))⟩, ⟨(some 136), none, false, (.mv (.t 135))⟩, ⟨(some 137), (some (136, false)), false, (.fa 0 (.t 14))⟩, ⟨(some 138), (some (136, false)), false, (.ld false 1 (.t 137))⟩, ⟨(some 139), (some (136, false)), false, (.bin .neq (.t 138) (.c (.int .u64 1)))⟩, ⟨(some 140), none, false, (.pick (.t 136) (.c (.bool true)) (.t 139))⟩, ⟨(some 141), none, false, (.mv (.t 140))⟩, ⟨(some 142), (some (141, false)), false, (.fa 1 (.t 14))⟩, ⟨(some 143), (some (141, false)), false, (.ld false 1 (.t 142))⟩, ⟨(some 144), (some (141, false)), false, (.bin .neq (.t 143) (.c (.int .i64 1)))⟩, ⟨(some 145), none, false, (.pick (.t 141) (.c (.bool true)) (.t 144))⟩, ⟨(some 146), none, false, (.mv (.t 145))⟩, ⟨(some 147), (some (146, false)), false, (.mv (.t 4))⟩, ⟨(some 148), (some (146, false)), false, (.bin .neq (.t 147) (.c (.int .i64 160)))⟩, ⟨(some 149), none, false, (.pick (.t 146) (.c (.bool true)) (.t 148))⟩, ⟨(some 150), none, false, (.mv (.t 149))⟩, ⟨(some 151), (some (150, false)), false, (.mv (.t 6))⟩, ⟨(some 152), (some (150, false)), false, (.bin .neq (.t 151) (.c (.int .i64 0)))⟩, ⟨(some 153), none, false, (.pick (.t 150) (.c (.bool true)) (.t 152))⟩, ⟨(some 154), none, false, (.mv (.t 153))⟩, ⟨(some 155), (some (154, false)), false, (.mv (.t 15))⟩, ⟨(some 156), (some (154, false)), false, (.bin .neq (.t 155) (.c (.int .i64 0)))⟩, ⟨(some 157), none, false, (.pick (.t 154) (.c (.bool true)) (.t 156))⟩, ⟨(some 158), none, false, (.mv (.t 157))⟩, ⟨(some 159), (some (158, false)), false, (.mv (.t 8))⟩, ⟨(some 160), (some (158, false)), false, (.bin .neq (.t 159) (.c (.int .i64 0)))⟩, ⟨(some 161), none, false, (.pick (.t 158) (.c (.bool true)) (.t 160))⟩, ⟨(some 162), none, false, (.mv (.t 161))⟩, ⟨(some 163), (some (162, false)), false, (.mv (.t 16))⟩, ⟨(some 164), (some (162, false)), false, (.bin .neq (.t 163) (.c (.int .i64 3)))⟩, ⟨(some 165), none, false, (.pick (.t 162) (.c (.bool true)) (.t 164))⟩, ⟨(some 166), none, false, (.mv (.t 165))⟩, ⟨(some 167), (some (166, false)), true, (.build [(.int .u64 0), (.int .i64 0)] [(1, 1, (.c (.int .i64 4)))])⟩, ⟨(some 168), (some (166, false)), false, (.cal 21 [(.t 167), (.c (.int .i64 8)), (.c (.int .i64 3))])⟩, ⟨(some 169), (some (166, false)), false, (.bin .neq (.t 168) (.c (.int .i64 8)))⟩, ⟨(some 170), none, false, (.pick (.t 166) (.c (.bool true)) (.t 169))⟩, ⟨(some 171), none, false, (.mv (.t 170))⟩, ⟨(some 172), (some (171, false)), true, (.build [(.int .u64 0), (.int .i64 0)] [])⟩, ⟨(some 173), (some (171, false)), false, (.cal 21 [(.t 172), (.c (.int .i64 0)), (.c (.int .i64 3))])⟩, ⟨(some 174), (some (171, false)), false, (.bin .neq (.t 173) (.c (.int .i64 2)))⟩, ⟨(some 175), none, false, (.pick (.t 171) (.c (.bool true)) (.t 174))⟩, ⟨(some 176), none, false, (.mv (.t 175))⟩, ⟨(some 177), (some (176, false)), true, (.build [(.int .u64 0), (.int .i64 0)] [])⟩, ⟨(some 178), (some (176, false)), false, (.cal 21 [(.t 177), (.c (.int .i64 65)), (.c (.int .i64 3))])⟩, ⟨(some 179), (some (176, false)), false, (.bin .neq (.t 178) (.c (.int .i64 2)))⟩, ⟨(some 180), none, false, (.pick (.t 176) (.c (.bool true)) (.t 179))⟩])
 (.cond (.t 180)
 (.seq (.reg [⟨(some 0), none, false, (.mv (.c (.bool false)))⟩])
 .ret)
 .skip))
 (.seq (.reg [⟨(some 181), none, false, (.cal 22 [(.c (.int .i64 1)), (.c (.int .i64 0)), (.c (.int .u64 3))])⟩, ⟨(some 182), none, false, (.cal 22 [(.c (.int .i64 1)), (.c (.int .i64 0)), (.c (.int .u64 3))])⟩, ⟨(some 183), none, false, (.cal 22 [(.c (.int .i64 1)), (.c (.int .i64 0)), (.c (.int .u64 3))])⟩, ⟨(some 184), none, false, (.cal 23 [(.c (.int .u8 1)), (.c (.int .i64 2)), (.c (.int .u64 0))])⟩, ⟨(some 185), none, false, (.cal 22 [(.c (.int .i64 0)), (.c (.int .i64 0)), (.c (.int .u64 4))])⟩, ⟨(some 186), none, false, (.cal 23 [(.c (.int .u8 1)), (.c (.int .i64 3)), (.c (.int .u64 0))])⟩, ⟨(some 187), none, false, (.cal 22 [(.c (.int .i64 0)), (.c (.int .i64 0)), (.c (.int .u64 5))])⟩, ⟨(some 188), none, false, (.cal 22 [(.c (.int .i64 0)), (.c (.int .i64 0)), (.c (.int .u64 8))])⟩, ⟨(some 189), none, false, (.build [(.int .u8 0), (.int .i64 0), (.int .i64 0), (.int .i64 0), (.int .u64 0)] [(0, 1, (.c (.int .u8 2)))])⟩, ⟨(some 190), none, false, (.build [(.int .u8 0), (.int .i64 0), (.int .i64 0), (.int .i64 0), (.int .u64 0)] [(0, 1, (.c (.int .u8 2)))])⟩, ⟨(some 191), none, false, (.build [(.int .u8 0), (.int .i64 0), (.int .i64 0), (.int .i64 0), (.int .u64 0)] [(0, 1, (.c (.int .u8 2)))])⟩, ⟨(some 192), none, false, (.cal 23 [(.c (.int .u8 3)), (.c (.int .i64 1)), (.c (.int .u64 0))])⟩, ⟨(some 193), none, false, (.cal 23 [(.c (.int .u8 3)), (.c (.int .i64 1)), (.c (.int .u64 0))])⟩, ⟨(some 194), none, false, (.cal 23 [(.c (.int .u8 4)), (.c (.int .i64 1)), (.c (.int .u64 9))])⟩, ⟨(some 195), none, false, (.cal 23 [(.c (.int .u8 1)), (.c (.int .i64 4)), (.c (.int .u64 0))])⟩, ⟨(some 196), none, false, (.cal 23 [(.c (.int .u8 5)), (.c (.int .i64 5)), (.c (.int .u64 0))])⟩, ⟨(some 197), none, false, (.build [(.int .u8 0), (.int .i64 0), (.int .i64 0), (.int .i64 0), (.int .u64 0)] [(0, 1, (.c (.int .u8 6)))])⟩, ⟨(some 198), none, false, (.bslice 5 17 [(.int .u8 0), (.int .i64 0), (.int .i64 0), (.int .i64 0), (.int .u64 0)] [(0, (.t 181)), (1, (.t 182)), (2, (.t 183)), (3, (.t 184)), (4, (.t 185)), (5, (.t 186)), (6, (.t 187)), (7, (.t 188)), (8, (.t 189)), (9, (.t 190)), (10, (.t 191)), (11, (.t 192)), (12, (.t 193)), (13, (.t 194)), (14, (.t 195)), (15, (.t 196)), (16, (.t 197))])⟩, ⟨(some 17), none, false, (.mv (.t 198))⟩])
 (.seq (.reg [⟨(some 199), none, false, (.bslice 1 17 [(.int .i64 0)] [(0, (.c (.int .i64 0))), (1, (.c (.int .i64 0))), (2, (.c (.int .i64 9))), (3, (.c (.int .i64 0))), (4, (.c (.int .i64 0))), (5, (.c (.int .i64 0))), (6, (.c (.int .i64 160))), (7, (.c (.int .i64 0))), (8, (.c (.int .i64 0))), (9, (.c (.int .i64 0))), (10, (.c (.int .i64 6))), (11, (.c (.int .i64 0))), (12, (.c (.int .i64 150))), (13, (.c (.int .i64 0))), (14, (.c (.int .i64 150))), (15, (.c (.int .i64 6))), (16, (.c (.int .i64 0)))])⟩, ⟨(some 18), none, false, (.mv (.t 199))⟩])
 (.seq (.reg [⟨(some 200), none, false, (.bslice 1 17 [(.int .i64 0)] [(0, (.c (.int .i64 1))), (1, (.c (.int .i64 2))), (2, (.c (.int .i64 0))), (3, (.c (.int .i64 0))), (4, (.c (.int .i64 3))), (5, (.c (.int .i64 0))), (6, (.c (.int .i64 0))), (7, (.c (.int .i64 4))), (8, (.c (.int .i64 1))), (9, (.c (.int .i64 4))), (10, (.c (.int .i64 0))), (11, (.c (.int .i64 0))), (12, (.c (.int .i64 0))), (13, (.c (.int .i64 0))), (14, (.c (.int .i64 0))), (15, (.c (.int .i64 0))), (16, (.c (.int .i64 0)))])⟩, ⟨(some 19), none, false, (.mv (.t 200))⟩])
 (.seq (.reg [⟨(some 201), none, false, (.build [.nils, .nils, (.int .u64 0), (.int .i64 0)] [])⟩, ⟨(some 20), none, false, (.alloc [.nils, .nils, (.int .u64 0), (.int .i64 0)])⟩, ⟨none, none, false, (.st 4 (.t 20) (.t 201))⟩])
 (.seq (.seq (.reg [⟨(some 21), none, false, (.mv (.c (.int .i64 0)))⟩])
 (.block 0 (.loop (.seq (.seq (.reg [⟨(some 202), none, false, (.mv (.t 21))⟩, ⟨(some 203), none, false, (.mv (.t 17))⟩, ⟨(some 204), none, false, (.len (.t 203))⟩, ⟨(some 205), none, false, (.bin .lss (.t 202) (.t 204))⟩])
 (.cond (.t 205)
 .skip
 (.exit 0)))
 (.seq (.block 1 (.seq (.drw [(false, ⟨(some 208), none, true, (.cal 25 [])⟩), (false, ⟨(some 209), none, true, (.ld true 4 (.t 20))⟩), (false, ⟨(some 210), none, false, (.mv (.t 17))⟩), (false, ⟨(some 211), none, false, (.mv (.t 21))⟩), (false, ⟨(some 212), none, false, (.ias 5 (.t 210) (.t 211))⟩), (false, ⟨(some 213), none, true, (.ld true 5 (.t 212))⟩), (false, ⟨(some 214), none, false, (.cal 24 [(.t 208), (.t 209), (.t 213)])⟩), (false, ⟨(some 22), none, false, (.alloc [.nils, .nils, (.int .u64 0), (.int .i64 0), (.int .i64 0), (.int .i64 0), (.int .i64 0), (.int .i64 0), (.int .u8 0), (.int .u64 0), (.int .u64 0), (.int .i64 0), (.int .i64 0), (.int .i64 0), (.int .i64 0), (.int .i64 0), (.int .i64 0), (.int .i64 0)])⟩)] [⟨none, none, false, (.st 18 (.t 22) (.t 214))⟩])
 (.seq (.seq (.drw [(false, ⟨(some 215), none, false, (.fa 17 (.t 22))⟩), (false, ⟨(some 216), none, false, (.ld false 1 (.t 215))⟩), (false, ⟨(some 217), none, false, (.mv (.t 18))⟩), (false, ⟨(some 218), none, false, (.mv (.t 21))⟩), (false, ⟨(some 219), none, false, (.ias 1 (.t 217) (.t 218))⟩), (false, ⟨(some 220), none, false, (.ld false 1 (.t 219))⟩), (false, ⟨(some 221), none, false, (.bin .neq (.t 216) (.t 220))⟩), (false, ⟨(some 222), none, false, (.mv (.t 221))⟩), (false, ⟨(some 223), (some (222, false)), false, (.fa 4 (.t 22))⟩), (false, ⟨(some 224), (some (222, false)), false, (.ld false 1 (.t 223))⟩), (false, ⟨(some 225), (some (222, false)), false, (.mv (.t 19))⟩), (false, ⟨(some 226), (some (222, false)), false, (.mv (.t 21))⟩), (false, ⟨(some 227), (some (222, false)), false, (.ias 1 (.t 225) (.t 226))⟩), (false, ⟨(some 228), (some (222, false)), false, (.ld false 1 (.t 227))⟩), (false, ⟨(some 229), (some (222, false)), false, (.bin .neq (.t 224) (.t 228))⟩), (false, ⟨(some 230), none, false, (.pick (.t 222) (.c (.bool true)) (.t 229))⟩)] [])
 (.cond (.t 230)
 (.seq (.reg [⟨(some 0), none, false, (.mv (.c (.bool false)))⟩])
 .ret)
 .skip))
 (.seq (.reg [⟨(some 231), none, false, (.mv (.t 17))⟩, ⟨(some 232), none, false, (.mv (.t 21))⟩, ⟨(some 233), none, false, (.ias 5 (.t 231) (.t 232))⟩, ⟨(some 234), none, true, (.ld true 5 (.t 233))⟩, ⟨(some 235), none, false, (.cal 26 [(.t 234)])⟩, ⟨(some 236), none, false, (.mv (.t 235))⟩, ⟨(some 237), (some (236, true)), false, (.mv (.t 18))⟩, ⟨(some 238), (some (236, true)), false, (.mv (.t 21))⟩, ⟨(some 239), (some (236, true)), false, (.ias 1 (.t 237) (.t 238))⟩, ⟨(some 240), (some (236, true)), false, (.ld false 1 (.t 239))⟩, ⟨(some 241), (some (236, true)), false, (.bin .eql (.t 240) (.c (.int .i64 0)))⟩, ⟨(some 242), none, false, (.pick (.t 236) (.t 241) (.c (.bool false)))⟩])
 (.cond (.t 242)
 (.reg [⟨(some 243), none, false, (.fa 0 (.t 22))⟩, ⟨(some 244), none, false, (.ld true 4 (.t 243))⟩, ⟨none, none, false, (.st 4 (.t 20) (.t 244))⟩])
 .skip)))))
 (.reg [⟨(some 206), none, false, (.mv (.t 21))⟩, ⟨(some 207), none, false, (.bin .add (.t 206) (.c (.int .i64 1)))⟩, ⟨(some 21), none, false, (.mv (.t 207))⟩]))))))
 (.seq (.drw [(false, ⟨(some 246), none, true, (.cal 25 [])⟩), (false, ⟨(some 247), none, true, (.ld true 4 (.t 20))⟩), (false, ⟨(some 248), none, false, (.cal 27 [(.t 246), (.t 247)])⟩), (false, ⟨(some 245), none, false, (.mv (.t 248))⟩), (false, ⟨(some 249), none, false, (.ext (.t 245) 0)⟩), (true, ⟨(some 250), none, false, (.ext (.t 245) 1)⟩), (false, ⟨(some 23), none, false, (.alloc [(.int .i64 0), (.int .i64 0), (.int .i64 0), (.int .i64 0), (.int .i64 0), (.int .i64 0)])⟩), (false, ⟨none, none, false, (.st 6 (.t 23) (.t 249))⟩), (false, ⟨(some 2), none, false, (.mv (.t 250))⟩)] [])
 (.seq (.reg [⟨(some 251), none, false, (.cal 25 [])⟩, ⟨(some 24), none, false, (.alloc [.nils, .nils, .nils, (.int .i64 0), (.int .i64 0), (.int .i64 0), (.int .i64 0), (.int .i64 0)])⟩, ⟨none, none, false, (.st 8 (.t 24) (.t 251))⟩])
 (.seq (.reg [⟨(some 252), none, false, (.fa 5 (.t 24))⟩, ⟨none, none, false, (.st 1 (.t 252) (.c (.int .i64 9)))⟩])
 (.seq (.reg [⟨(some 254), none, true, (.cal 25 [])⟩, ⟨(some 255), none, true, (.build [.nils, .nils, (.int .u64 0), (.int .i64 0)] [])⟩, ⟨(some 256), none, false, (.cal 28 [(.t 254), (.t 255), (.c (.int .i64 2)), (.c (.int .i64 0)), (.c (.int .u64 3))])⟩, ⟨(some 253), none, false, (.mv (.t 256))⟩, ⟨(some 257), none, false, (.ext (.t 253) 0)⟩, ⟨(some 258), none, false, (.ext (.t 253) 1)⟩, ⟨(some 259), none, false, (.ext (.t 253) 2)⟩, ⟨(some 4), none, false, (.mv (.t 259))⟩])
 (.seq (.reg [⟨(some 261), none, true, (.cal 25 [])⟩, ⟨(some 262), none, true, (.build [.nils, .nils, (.int .u64 0), (.int .i64 0)] [])⟩, ⟨(some 263), none, false, (.cal 28 [(.t 261), (.t 262), (.c (.int .i64 0)), (.c (.int .i64 1)), (.c (.int .u64 3))])⟩, ⟨(some 260), none, false, (.mv (.t 263))⟩, ⟨(some 264), none, false, (.ext (.t 260) 0)⟩, ⟨(some 265), none, false, (.ext (.t 260) 1)⟩, ⟨(some 266), none, false, (.ext (.t 260) 2)⟩, ⟨(some 6), none, false, (.mv (.t 266))⟩])
 (.seq (.reg [⟨(some 267), none, false, (.mv (.t 2))⟩, ⟨(some 268), none, false, (.bin .eql (.t 267) (.c (.int .i64 0)))⟩, ⟨(some 269), none, false, (.mv (.t 268))⟩, ⟨(some 270), (some (269, true)), false, (.ld true 6 (.t 23))⟩, ⟨(some 271), (some (269, true)), false, (.build [(.int .i64 0), (.int .i64 0), (.int .i64 0), (.int .i64 0), (.int .i64 0), (.int .i64 0)] [(0, 1, (.c (.int .i64 4))), (1, 1, (.c (.int .i64 0))), (2, 1, (.c (.int .i64 1))), (3, 1, (.c (.int .i64 0))), (4, 1, (.c (.int .i64 1))), (5, 1, (.c (.int .i64 2)))])⟩, ⟨(some 272), (some (269, true)), false, (.eqv false [(0, (.i .i64)), (1, (.i .i64)), (2, (.i .i64)), (3, (.i .i64)), (4, (.i .i64)), (5, (.i .i64))] (.t 270) (.t 271))⟩, ⟨(some 273), none, false, (.pick (.t 269) (.t 272) (.c (.bool false)))⟩, ⟨(some 274), none, false, (.mv (.t 273))⟩, ⟨(some 275), (some (274, true)), false, (.mv (.t 4))⟩, ⟨(some 276), (some (274, true)), false, (.bin .eql (.t 275) (.c (.int .i64 2)))⟩, ⟨(some 277), none, false, (.pick (.t 274) (.t 276) (.c (.bool false)))⟩, ⟨(some 278), none, false, (.mv (.t 277))⟩, ⟨(some 279), (some (278, true)), false, (.mv (.t 6))⟩, ⟨(some 280), (some (278, true)), false, (.bin .eql (.t 279) (.c (.int .i64 2)))⟩, ⟨(some 281), none, false, (.pick (.t 278) (.t 280) (.c (.bool false)))⟩, ⟨(some 282), none, false, (.mv (.t 281))⟩, ⟨(some 283), (some (282, true)), true, (.ld true 8 (.t 24))⟩, ⟨(some 284), (some (282, true)), true, (.build [.nils, .nils, (.int .u64 0), (.int .i64 0)] [])⟩, ⟨(some 285), (some (282, true)), false, (.cal 29 [(.t 283), (.t 284)])⟩, ⟨(some 286), (some (282, true)), false, (.bin .eql (.t 285) (.c (.int .i64 70)))⟩, ⟨(some 287), none, false, (.pick (.t 282) (.t 286) (.c (.bool false)))⟩, ⟨(some 0), none, false, (.mv (.t 287))⟩])
 .ret))))))))))))))))))))))))))))))
theorem l3 : ∃ c, f3.body = some c ∧ liteC prog f3.ntmps c = some q3 := ⟨_, rfl, by kernel_rfl⟩
theorem e3 : prog.funcs[3]? = some f3 := by kernel_rfl
theorem r3 : mapO (resOf prog) f3.results.toList = some [(.t 0)] := by kernel_rfl
theorem n3 : f3.ntmps = 288 := rfl
def T3 : TE := .fn q3 [(.t 0)] 288
theorem te3 : TEOK prog 3 T3 := te_fn e3 l3 rfl r3 n3

def q4 : RQ :=
 (.seq (.reg [⟨(some 10), none, false, (.box (.t 4))⟩, ⟨(some 12), none, false, (.mv (.c (.bool false)))⟩])
 (.seq (.reg [⟨(some 18), none, true, (.mv (.t 0))⟩, ⟨(some 19), none, true, (.mv (.t 1))⟩, ⟨(some 20), none, true, (.mv (.t 2))⟩, ⟨(some 21), none, true, (.mv (.t 3))⟩, ⟨(some 22), none, false, (.cal 16 [(.t 18), (.t 19), (.t 20), (.t 21)])⟩, ⟨(some 17), none, false, (.mv (.t 22))⟩, ⟨(some 23), none, false, (.ext (.t 17) 0)⟩, ⟨(some 24), none, false, (.ext (.t 17) 1)⟩, ⟨(some 13), none, false, (.alloc [(.int .i64 0), (.int .i64 0), (.int .i64 0), (.int .u8 0), (.int .u64 0), (.int .u64 0)])⟩, ⟨none, none, false, (.st 6 (.t 13) (.t 23))⟩, ⟨(some 14), none, false, (.mv (.t 24))⟩])
 (.seq (.reg [⟨(some 26), none, true, (.mv (.t 0))⟩, ⟨(some 27), none, true, (.mv (.t 1))⟩, ⟨(some 28), none, true, (.mv (.t 2))⟩, ⟨(some 29), none, true, (.mv (.t 3))⟩, ⟨(some 30), none, false, (.cal 30 [(.t 26), (.t 27), (.t 28), (.t 29)])⟩, ⟨(some 25), none, false, (.mv (.t 30))⟩, ⟨(some 31), none, false, (.ext (.t 25) 0)⟩, ⟨(some 32), none, false, (.ext (.t 25) 1)⟩, ⟨(some 15), none, false, (.alloc [(.int .i64 0), (.int .i64 0), (.int .i64 0), (.int .u8 0), (.int .u64 0), (.int .u64 0)])⟩, ⟨none, none, false, (.st 6 (.t 15) (.t 31))⟩, ⟨(some 16), none, false, (.mv (.t 32))⟩])
 (.seq (.seq (.drw [(false, ⟨(some 33), none, false, (.ld true 6 (.t 13))⟩), (false, ⟨(some 34), none, false, (.ld true 6 (.t 15))⟩), (false, ⟨(some 35), none, false, (.eqv true [(0, (.i .i64)), (1, (.i .i64)), (2, (.i .i64)), (3, (.i .u8)), (4, (.i .u64)), (5, (.i .u64))] (.t 33) (.t 34))⟩), (false, ⟨(some 36), none, false, (.mv (.t 35))⟩), (false, ⟨(some 37), (some (36, false)), false, (.mv (.t 14))⟩), (false, ⟨(some 38), (some (36, false)), false, (.mv (.t 16))⟩), (false, ⟨(some 39), (some (36, false)), false, (.bin .neq (.t 37) (.t 38))⟩), (false, ⟨(some 40), none, false, (.pick (.t 36) (.c (.bool true)) (.t 39))⟩), (false, ⟨(some 41), none, false, (.mv (.t 40))⟩), (false, ⟨(some 42), (some (41, false)), true, (.ld true 6 (.t 10))⟩), (false, ⟨(some 43), (some (41, false)), false, (.cal 31 [(.t 42)])⟩), (false, ⟨(some 44), (some (41, false)), true, (.ld true 6 (.t 10))⟩), (false, ⟨(some 45), (some (41, false)), false, (.cal 32 [(.t 44)])⟩), (false, ⟨(some 46), (some (41, false)), false, (.bin .neq (.t 43) (.t 45))⟩), (false, ⟨(some 47), none, false, (.pick (.t 41) (.c (.bool true)) (.t 46))⟩)] [])
 (.cond (.t 47)
 (.seq (.reg [⟨(some 12), none, false, (.mv (.c (.bool false)))⟩])
 .ret)
 .skip))
 (.seq (.reg [⟨(some 49), none, true, (.ld true 6 (.t 10))⟩, ⟨(some 50), none, true, (.mv (.t 5))⟩, ⟨(some 51), none, true, (.mv (.t 3))⟩, ⟨(some 52), none, false, (.cal 18 [(.t 49), (.t 50), (.t 51)])⟩, ⟨(some 48), none, false, (.mv (.t 52))⟩, ⟨(some 53), none, false, (.ext (.t 48) 0)⟩, ⟨(some 54), none, false, (.ext (.t 48) 1)⟩, ⟨none, none, false, (.st 6 (.t 13) (.t 53))⟩, ⟨(some 14), none, false, (.mv (.t 54))⟩])
 (.seq (.reg [⟨(some 56), none, true, (.ld true 6 (.t 10))⟩, ⟨(some 57), none, true, (.mv (.t 5))⟩, ⟨(some 58), none, true, (.mv (.t 3))⟩, ⟨(some 59), none, false, (.cal 33 [(.t 56), (.t 57), (.t 58)])⟩, ⟨(some 55), none, false, (.mv (.t 59))⟩, ⟨(some 60), none, false, (.ext (.t 55) 0)⟩, ⟨(some 61), none, false, (.ext (.t 55) 1)⟩, ⟨none, none, false, (.st 6 (.t 15) (.t 60))⟩, ⟨(some 16), none, false, (.mv (.t 61))⟩])
 (.seq (.reg [⟨(some 62), none, false, (.ld true 6 (.t 13))⟩, ⟨(some 63), none, false, (.ld true 6 (.t 15))⟩, ⟨(some 64), none, false, (.eqv false [(0, (.i .i64)), (1, (.i .i64)), (2, (.i .i64)), (3, (.i .u8)), (4, (.i .u64)), (5, (.i .u64))] (.t 62) (.t 63))⟩, ⟨(some 65), none, false, (.mv (.t 64))⟩, ⟨(some 66), (some (65, true)), false, (.mv (.t 14))⟩, ⟨(some 67), (some (65, true)), false, (.mv (.t 16))⟩, ⟨(some 68), (some (65, true)), false, (.bin .eql (.t 66) (.t 67))⟩, ⟨(some 69), none, false, (.pick (.t 65) (.t 68) (.c (.bool false)))⟩, ⟨(some 12), none, false, (.mv (.t 69))⟩])
 .ret)))))))
theorem l4 : ∃ c, f4.body = some c ∧ liteC prog f4.ntmps c = some q4 := ⟨_, rfl, by kernel_rfl⟩
theorem e4 : prog.funcs[4]? = some f4 := by kernel_rfl
theorem r4 : mapO (resOf prog) f4.results.toList = some [(.t 12)] := by kernel_rfl
theorem n4 : f4.ntmps = 70 := rfl
def T4 : TE := .fn q4 [(.t 12)] 70
theorem te4 : TEOK prog 4 T4 := te_fn e4 l4 rfl r4 n4

def q5 : RQ :=
 (.seq (.reg [⟨(some 4), none, false, (.box (.t 0))⟩, ⟨(some 8), none, false, (.mv (.c (.bool false)))⟩])
 (.seq (.reg [⟨(some 16), none, true, (.ld true 2 (.t 4))⟩, ⟨(some 17), none, true, (.mv (.t 1))⟩, ⟨(some 18), none, true, (.mv (.t 2))⟩, ⟨(some 19), none, true, (.mv (.t 3))⟩, ⟨(some 20), none, false, (.cal 19 [(.t 16), (.t 17), (.t 18), (.t 19)])⟩, ⟨(some 15), none, false, (.mv (.t 20))⟩, ⟨(some 21), none, false, (.ext (.t 15) 0)⟩, ⟨(some 22), none, false, (.ext (.t 15) 1)⟩, ⟨(some 9), none, false, (.alloc [(.int .u64 0), (.int .i64 0)])⟩, ⟨none, none, false, (.st 2 (.t 9) (.t 21))⟩, ⟨(some 10), none, false, (.mv (.t 22))⟩])
 (.seq (.reg [⟨(some 24), none, true, (.ld true 2 (.t 4))⟩, ⟨(some 25), none, true, (.mv (.t 1))⟩, ⟨(some 26), none, true, (.mv (.t 2))⟩, ⟨(some 27), none, true, (.mv (.t 3))⟩, ⟨(some 28), none, false, (.cal 34 [(.t 24), (.t 25), (.t 26), (.t 27)])⟩, ⟨(some 23), none, false, (.mv (.t 28))⟩, ⟨(some 29), none, false, (.ext (.t 23) 0)⟩, ⟨(some 30), none, false, (.ext (.t 23) 1)⟩, ⟨(some 11), none, false, (.alloc [(.int .u64 0), (.int .i64 0)])⟩, ⟨none, none, false, (.st 2 (.t 11) (.t 29))⟩, ⟨(some 12), none, false, (.mv (.t 30))⟩])
 (.seq (.seq (.drw [(false, ⟨(some 31), none, false, (.ld true 2 (.t 9))⟩), (false, ⟨(some 32), none, false, (.ld true 2 (.t 11))⟩), (false, ⟨(some 33), none, false, (.eqv true [(0, (.i .u64)), (1, (.i .i64))] (.t 31) (.t 32))⟩), (false, ⟨(some 34), none, false, (.mv (.t 33))⟩), (false, ⟨(some 35), (some (34, false)), false, (.mv (.t 10))⟩), (false, ⟨(some 36), (some (34, false)), false, (.mv (.t 12))⟩), (false, ⟨(some 37), (some (34, false)), false, (.bin .neq (.t 35) (.t 36))⟩), (false, ⟨(some 38), none, false, (.pick (.t 34) (.c (.bool true)) (.t 37))⟩), (false, ⟨(some 39), none, false, (.mv (.t 38))⟩), (false, ⟨(some 40), (some (39, false)), true, (.ld true 2 (.t 4))⟩), (false, ⟨(some 41), (some (39, false)), true, (.mv (.t 1))⟩), (false, ⟨(some 42), (some (39, false)), true, (.mv (.t 2))⟩), (false, ⟨(some 43), (some (39, false)), false, (.cal 21 [(.t 40), (.t 41), (.t 42)])⟩), (false, ⟨(some 44), (some (39, false)), true, (.ld true 2 (.t 4))⟩), (false, ⟨(some 45), (some (39, false)), true, (.mv (.t 1))⟩), (false, ⟨(some 46), (some (39, false)), true, (.mv (.t 2))⟩), (false, ⟨(some 47), (some (39, false)), false, (.cal 35 [(.t 44), (.t 45), (.t 46)])⟩), (false, ⟨(some 48), (some (39, false)), false, (.bin .neq (.t 43) (.t 47))⟩), (false, ⟨(some 49), none, false, (.pick (.t 39) (.c (.bool true)) (.t 48))⟩)] [])
 (.cond (.t 49)
 (.seq (.reg [⟨(some 8), none, false, (.mv (.c (.bool false)))⟩])
 .ret)
 .skip))
 (.seq (.reg [⟨(some 51), none, true, (.ld true 2 (.t 4))⟩, ⟨(some 52), none, true, (.mv (.t 1))⟩, ⟨(some 53), none, true, (.mv (.t 2))⟩, ⟨(some 54), none, true, (.mv (.t 3))⟩, ⟨(some 55), none, false, (.cal 20 [(.t 51), (.t 52), (.t 53), (.t 54)])⟩, ⟨(some 50), none, false, (.mv (.t 55))⟩, ⟨(some 56), none, false, (.ext (.t 50) 0)⟩, ⟨(some 57), none, false, (.ext (.t 50) 1)⟩, ⟨(some 13), none, false, (.mv (.t 56))⟩, ⟨(some 10), none, false, (.mv (.t 57))⟩])
 (.seq (.reg [⟨(some 59), none, true, (.ld true 2 (.t 4))⟩, ⟨(some 60), none, true, (.mv (.t 1))⟩, ⟨(some 61), none, true, (.mv (.t 2))⟩, ⟨(some 62), none, true, (.mv (.t 3))⟩, ⟨(some 63), none, false, (.cal 36 [(.t 59), (.t 60), (.t 61), (.t 62)])⟩, ⟨(some 58), none, false, (.mv (.t 63))⟩, ⟨(some 64), none, false, (.ext (.t 58) 0)⟩, ⟨(some 65), none, false, (.ext (.t 58) 1)⟩, ⟨(some 14), none, false, (.mv (.t 64))⟩, ⟨(some 12), none, false, (.mv (.t 65))⟩])
 (.seq (.reg [⟨(some 66), none, false, (.mv (.t 13))⟩, ⟨(some 67), none, false, (.mv (.t 14))⟩, ⟨(some 68), none, false, (.bin .eql (.t 66) (.t 67))⟩, ⟨(some 69), none, false, (.mv (.t 68))⟩, ⟨(some 70), (some (69, true)), false, (.mv (.t 10))⟩, ⟨(some 71), (some (69, true)), false, (.mv (.t 12))⟩, ⟨(some 72), (some (69, true)), false, (.bin .eql (.t 70) (.t 71))⟩, ⟨(some 73), none, false, (.pick (.t 69) (.t 72) (.c (.bool false)))⟩, ⟨(some 8), none, false, (.mv (.t 73))⟩])
 .ret)))))))
theorem l5 : ∃ c, f5.body = some c ∧ liteC prog f5.ntmps c = some q5 := ⟨_, rfl, by kernel_rfl⟩
theorem e5 : prog.funcs[5]? = some f5 := by kernel_rfl
theorem r5 : mapO (resOf prog) f5.results.toList = some [(.t 8)] := by kernel_rfl
theorem n5 : f5.ntmps = 74 := rfl
def T5 : TE := .fn q5 [(.t 8)] 74
theorem te5 : TEOK prog 5 T5 := te_fn e5 l5 rfl r5 n5

def q6 : RQ :=
 (.seq (.reg [⟨(some 3), none, false, (.box (.t 0))⟩, ⟨(some 4), none, false, (.box (.t 1))⟩, ⟨(some 5), none, false, (.box (.t 2))⟩, ⟨(some 6), none, false, (.mv (.c (.bool false)))⟩])
 (.seq (.reg [⟨(some 11), none, true, (.ld true 4 (.t 4))⟩, ⟨(some 12), none, false, (.cal 37 [(.t 11)])⟩, ⟨(some 7), none, false, (.alloc [.nils, .nils, (.int .u64 0), (.int .i64 0)])⟩, ⟨none, none, false, (.st 4 (.t 7) (.t 12))⟩])
 (.seq (.reg [⟨(some 13), none, true, (.ld true 8 (.t 3))⟩, ⟨(some 14), none, true, (.ld true 4 (.t 7))⟩, ⟨(some 15), none, true, (.ld true 5 (.t 5))⟩, ⟨(some 16), none, false, (.cal 24 [(.t 13), (.t 14), (.t 15)])⟩, ⟨(some 8), none, false, (.alloc [.nils, .nils, (.int .u64 0), (.int .i64 0), (.int .i64 0), (.int .i64 0), (.int .i64 0), (.int .i64 0), (.int .u8 0), (.int .u64 0), (.int .u64 0), (.int .i64 0), (.int .i64 0), (.int .i64 0), (.int .i64 0), (.int .i64 0), (.int .i64 0), (.int .i64 0)])⟩, ⟨none, none, false, (.st 18 (.t 8) (.t 16))⟩])
 (.seq (.seq (.drw [(false, ⟨(some 17), none, true, (.ld true 8 (.t 3))⟩), (false, ⟨(some 18), none, true, (.ld true 4 (.t 7))⟩), (false, ⟨(some 19), none, false, (.cal 29 [(.t 17), (.t 18)])⟩), (false, ⟨(some 20), none, true, (.ld true 8 (.t 3))⟩), (false, ⟨(some 21), none, true, (.ld true 4 (.t 4))⟩), (false, ⟨(some 22), none, false, (.cal 38 [(.t 20), (.t 21)])⟩), (false, ⟨(some 23), none, false, (.bin .neq (.t 19) (.t 22))⟩), (false, ⟨(some 24), none, false, (.mv (.t 23))⟩), (false, ⟨(some 25), (some (24, false)), true, (.ld true 18 (.t 8))⟩), (false, ⟨(some 26), (some (24, false)), true, (.ld true 8 (.t 3))⟩), (false, ⟨(some 27), (some (24, false)), true, (.ld true 4 (.t 4))⟩), (false, ⟨(some 28), (some (24, false)), true, (.ld true 5 (.t 5))⟩), (false, ⟨(some 29), (some (24, false)), true, (.cal 40 [(.t 26), (.t 27), (.t 28)])⟩), (false, ⟨(some 30), (some (24, false)), false, (.cal 39 [(.t 25), (.t 29)])⟩), (false, ⟨(some 31), (some (24, false)), false, (.not (.t 30))⟩), (false, ⟨(some 32), none, false, (.pick (.t 24) (.c (.bool true)) (.t 31))⟩)] [])
 (.cond (.t 32)
 (.seq (.reg [⟨(some 6), none, false, (.mv (.c (.bool false)))⟩])
 .ret)
 .skip))
 (.seq (.seq (.reg [⟨(some 9), none, false, (.mv (.c (.int .i64 0)))⟩])
 (.block 0 (.loop (.seq (.seq (.reg [⟨(some 33), none, false, (.mv (.t 9))⟩, ⟨(some 34), none, false, (.fa 0 (.t 8))⟩, ⟨(some 35), none, false, (.fa 0 (.t 34))⟩, ⟨(some 36), none, false, (.ld false 1 (.t 35))⟩, ⟨(some 37), none, false, (.len (.t 36))⟩, ⟨(some 38), none, false, (.bin .lss (.t 33) (.t 37))⟩])
 (.cond (.t 38)
 .skip
 (.exit 0)))
 (.seq (.block 1 (.reg [⟨(some 41), none, false, (.fa 0 (.t 8))⟩, ⟨(some 42), none, false, (.fa 0 (.t 41))⟩, ⟨(some 43), none, false, (.ld false 1 (.t 42))⟩, ⟨(some 44), none, false, (.mv (.t 9))⟩, ⟨(some 45), none, false, (.ias 6 (.t 43) (.t 44))⟩, ⟨(some 46), none, false, (.fa 0 (.t 45))⟩, ⟨(some 47), none, false, (.ld false 1 (.t 46))⟩, ⟨(some 48), none, false, (.bin .xor (.t 47) (.c (.int .i64 1)))⟩, ⟨(some 49), none, false, (.ias 6 (.t 43) (.t 44))⟩, ⟨(some 50), none, false, (.fa 0 (.t 49))⟩, ⟨none, none, false, (.st 1 (.t 50) (.t 48))⟩]))
 (.reg [⟨(some 39), none, false, (.mv (.t 9))⟩, ⟨(some 40), none, false, (.bin .add (.t 39) (.c (.int .i64 1)))⟩, ⟨(some 9), none, false, (.mv (.t 40))⟩]))))))
 (.seq (.seq (.reg [⟨(some 10), none, false, (.mv (.c (.int .i64 0)))⟩])
 (.block 2 (.loop (.seq (.seq (.reg [⟨(some 51), none, false, (.mv (.t 10))⟩, ⟨(some 52), none, false, (.fa 0 (.t 8))⟩, ⟨(some 53), none, false, (.fa 1 (.t 52))⟩, ⟨(some 54), none, false, (.ld false 1 (.t 53))⟩, ⟨(some 55), none, false, (.len (.t 54))⟩, ⟨(some 56), none, false, (.bin .lss (.t 51) (.t 55))⟩])
 (.cond (.t 56)
 .skip
 (.exit 2)))
 (.seq (.block 3 (.reg [⟨(some 59), none, false, (.fa 0 (.t 8))⟩, ⟨(some 60), none, false, (.fa 1 (.t 59))⟩, ⟨(some 61), none, false, (.ld false 1 (.t 60))⟩, ⟨(some 62), none, false, (.mv (.t 10))⟩, ⟨(some 63), none, false, (.ias 1 (.t 61) (.t 62))⟩, ⟨(some 64), none, false, (.ld false 1 (.t 63))⟩, ⟨(some 65), none, false, (.bin .xor (.t 64) (.c (.int .i64 1)))⟩, ⟨(some 66), none, false, (.ias 1 (.t 61) (.t 62))⟩, ⟨none, none, false, (.st 1 (.t 66) (.t 65))⟩]))
 (.reg [⟨(some 57), none, false, (.mv (.t 10))⟩, ⟨(some 58), none, false, (.bin .add (.t 57) (.c (.int .i64 1)))⟩, ⟨(some 10), none, false, (.mv (.t 58))⟩]))))))
 (.seq (.reg [⟨(some 67), none, true, (.ld true 4 (.t 7))⟩, ⟨(some 68), none, true, (.ld true 4 (.t 4))⟩, ⟨(some 69), none, false, (.cal 41 [(.t 67), (.t 68)])⟩, ⟨(some 6), none, false, (.mv (.t 69))⟩])
 .ret)))))))
theorem l6 : ∃ c, f6.body = some c ∧ liteC prog f6.ntmps c = some q6 := ⟨_, rfl, by kernel_rfl⟩
theorem e6 : prog.funcs[6]? = some f6 := by kernel_rfl
theorem r6 : mapO (resOf prog) f6.results.toList = some [(.t 6)] := by kernel_rfl
theorem n6 : f6.ntmps = 70 := rfl
def T6 : TE := .fn q6 [(.t 6)] 70
theorem te6 : TEOK prog 6 T6 := te_fn e6 l6 rfl r6 n6

def q7 : RQ :=
 (.seq (.reg [⟨(some 2), none, false, (.box (.t 0))⟩, ⟨(some 4), none, false, (.mv (.c (.bool false)))⟩])
 (.seq (.seq (.reg [⟨(some 10), none, false, (.mv (.t 1))⟩, ⟨(some 11), none, false, (.len (.t 10))⟩, ⟨(some 12), none, false, (.bin .gtr (.t 11) (.c (.int .i64 300)))⟩])
 (.cond (.t 12)
 (.seq (.reg [⟨(some 4), none, false, (.mv (.c (.bool true)))⟩])
 .ret)
 .skip))
 (.seq (.reg [⟨(some 13), none, false, (.build [.nils, .nils, (.int .u64 0), (.int .i64 0)] [])⟩, ⟨(some 14), none, false, (.build [.nils, .nils, (.int .u64 0), (.int .i64 0)] [])⟩, ⟨(some 5), none, false, (.alloc [.nils, .nils, (.int .u64 0), (.int .i64 0)])⟩, ⟨(some 6), none, false, (.alloc [.nils, .nils, (.int .u64 0), (.int .i64 0)])⟩, ⟨none, none, false, (.st 4 (.t 5) (.t 13))⟩, ⟨none, none, false, (.st 4 (.t 6) (.t 14))⟩])
 (.seq (.seq (.reg [⟨(some 7), none, false, (.mv (.c (.int .i64 0)))⟩])
 (.block 0 (.loop (.seq (.seq (.reg [⟨(some 15), none, false, (.mv (.t 7))⟩, ⟨(some 16), none, false, (.mv (.t 1))⟩, ⟨(some 17), none, false, (.len (.t 16))⟩, ⟨(some 18), none, false, (.bin .lss (.t 15) (.t 17))⟩])
 (.cond (.t 18)
 .skip
 (.exit 0)))
 (.seq (.block 1 (.seq (.drw [(false, ⟨(some 21), none, true, (.ld true 8 (.t 2))⟩), (false, ⟨(some 22), none, true, (.ld true 4 (.t 5))⟩), (false, ⟨(some 23), none, false, (.mv (.t 1))⟩), (false, ⟨(some 24), none, false, (.mv (.t 7))⟩), (false, ⟨(some 25), none, false, (.ias 5 (.t 23) (.t 24))⟩), (false, ⟨(some 26), none, true, (.ld true 5 (.t 25))⟩), (false, ⟨(some 27), none, false, (.cal 24 [(.t 21), (.t 22), (.t 26)])⟩), (false, ⟨(some 8), none, false, (.alloc [.nils, .nils, (.int .u64 0), (.int .i64 0), (.int .i64 0), (.int .i64 0), (.int .i64 0), (.int .i64 0), (.int .u8 0), (.int .u64 0), (.int .u64 0), (.int .i64 0), (.int .i64 0), (.int .i64 0), (.int .i64 0), (.int .i64 0), (.int .i64 0), (.int .i64 0)])⟩)] [⟨none, none, false, (.st 18 (.t 8) (.t 27))⟩])
 (.seq (.drw [(false, ⟨(some 28), none, true, (.ld true 8 (.t 2))⟩), (false, ⟨(some 29), none, true, (.ld true 4 (.t 6))⟩), (false, ⟨(some 30), none, false, (.mv (.t 1))⟩), (false, ⟨(some 31), none, false, (.mv (.t 7))⟩), (false, ⟨(some 32), none, false, (.ias 5 (.t 30) (.t 31))⟩), (false, ⟨(some 33), none, true, (.ld true 5 (.t 32))⟩), (false, ⟨(some 34), none, false, (.cal 40 [(.t 28), (.t 29), (.t 33)])⟩), (false, ⟨(some 9), none, false, (.alloc [.nils, .nils, (.int .u64 0), (.int .i64 0), (.int .i64 0), (.int .i64 0), (.int .i64 0), (.int .i64 0), (.int .u8 0), (.int .u64 0), (.int .u64 0), (.int .i64 0), (.int .i64 0), (.int .i64 0), (.int .i64 0), (.int .i64 0), (.int .i64 0), (.int .i64 0)])⟩)] [⟨none, none, false, (.st 18 (.t 9) (.t 34))⟩])
 (.seq (.seq (.reg [⟨(some 35), none, true, (.ld true 18 (.t 8))⟩, ⟨(some 36), none, true, (.ld true 18 (.t 9))⟩, ⟨(some 37), none, false, (.cal 39 [(.t 35), (.t 36)])⟩, ⟨(some 38), none, false, (.not (.t 37))⟩])
 (.cond (.t 38)
 (.seq (.reg [⟨(some 4), none, false, (.mv (.c (.bool false)))⟩])
 .ret)
 .skip))
 (.seq (.reg [⟨(some 39), none, false, (.mv (.t 1))⟩, ⟨(some 40), none, false, (.mv (.t 7))⟩, ⟨(some 41), none, false, (.ias 5 (.t 39) (.t 40))⟩, ⟨(some 42), none, true, (.ld true 5 (.t 41))⟩, ⟨(some 43), none, false, (.cal 26 [(.t 42)])⟩, ⟨(some 44), none, false, (.mv (.t 43))⟩, ⟨(some 45), (some (44, true)), false, (.fa 17 (.t 9))⟩, ⟨(some 46), (some (44, true)), false, (.ld false 1 (.t 45))⟩, ⟨(some 47), (some (44, true)), false, (.bin .eql (.t 46) (.c (.int .i64 0)))⟩, ⟨(some 48), none, false, (.pick (.t 44) (.t 47) (.c (.bool false)))⟩])
 (.cond (.t 48)
 (.drw [(false, ⟨(some 49), none, false, (.fa 0 (.t 8))⟩), (false, ⟨(some 50), none, false, (.ld true 4 (.t 49))⟩), (true, ⟨(some 51), none, false, (.fa 0 (.t 9))⟩), (true, ⟨(some 52), none, false, (.ld true 4 (.t 51))⟩), (false, ⟨none, none, false, (.st 4 (.t 5) (.t 50))⟩), (false, ⟨none, none, false, (.st 4 (.t 6) (.t 52))⟩)] [])
 .skip))))))
 (.reg [⟨(some 19), none, false, (.mv (.t 7))⟩, ⟨(some 20), none, false, (.bin .add (.t 19) (.c (.int .i64 1)))⟩, ⟨(some 7), none, false, (.mv (.t 20))⟩]))))))
 (.seq (.drw [(false, ⟨(some 53), none, true, (.ld true 8 (.t 2))⟩), (false, ⟨(some 54), none, true, (.ld true 4 (.t 5))⟩), (false, ⟨(some 55), none, false, (.cal 29 [(.t 53), (.t 54)])⟩), (false, ⟨(some 56), none, true, (.ld true 8 (.t 2))⟩), (false, ⟨(some 57), none, true, (.ld true 4 (.t 6))⟩), (false, ⟨(some 58), none, false, (.cal 38 [(.t 56), (.t 57)])⟩), (false, ⟨(some 59), none, false, (.bin .eql (.t 55) (.t 58))⟩), (false, ⟨(some 4), none, false, (.mv (.t 59))⟩)] [])
 .ret)))))
theorem l7 : ∃ c, f7.body = some c ∧ liteC prog f7.ntmps c = some q7 := ⟨_, rfl, by kernel_rfl⟩
theorem e7 : prog.funcs[7]? = some f7 := by kernel_rfl
theorem r7 : mapO (resOf prog) f7.results.toList = some [(.t 4)] := by kernel_rfl
theorem n7 : f7.ntmps = 60 := rfl
def T7 : TE := .fn q7 [(.t 4)] 60
theorem te7 : TEOK prog 7 T7 := te_fn e7 l7 rfl r7 n7

def q8 : RQ :=
 (.seq (.reg [⟨(some 12), none, false, (.mv (.c (.bool false)))⟩])
 (.seq (.reg [⟨(some 20), none, false, (.cal 17 [])⟩, ⟨(some 13), none, false, (.mv (.t 20))⟩])
 (.seq (.reg [⟨(some 22), none, true, (.mv (.t 0))⟩, ⟨(some 23), none, true, (.mv (.t 1))⟩, ⟨(some 24), none, true, (.mv (.t 2))⟩, ⟨(some 25), none, true, (.mv (.t 3))⟩, ⟨(some 26), none, false, (.cal 16 [(.t 22), (.t 23), (.t 24), (.t 25)])⟩, ⟨(some 21), none, false, (.mv (.t 26))⟩, ⟨(some 27), none, false, (.ext (.t 21) 0)⟩, ⟨(some 28), none, false, (.ext (.t 21) 1)⟩, ⟨(some 14), none, false, (.alloc [(.int .i64 0), (.int .i64 0), (.int .i64 0), (.int .u8 0), (.int .u64 0), (.int .u64 0)])⟩, ⟨none, none, false, (.st 6 (.t 14) (.t 27))⟩, ⟨(some 15), none, false, (.mv (.t 28))⟩])
 (.seq (.seq (.reg [⟨(some 29), none, false, (.mv (.t 0))⟩, ⟨(some 30), none, false, (.bin .lss (.t 29) (.c (.int .i64 1)))⟩, ⟨(some 31), none, false, (.mv (.t 30))⟩, ⟨(some 32), (some (31, false)), false, (.mv (.t 0))⟩, ⟨(some 33), (some (31, false)), false, (.bin .gtr (.t 32) (.c (.int .i64 64)))⟩, ⟨(some 34), none, false, (.pick (.t 31) (.c (.bool true)) (.t 33))⟩, ⟨(some 35), none, false, (.mv (.t 34))⟩, ⟨(some 36), (some (35, false)), false, (.mv (.t 1))⟩, ⟨(some 37), (some (35, false)), false, (.bin .lss (.t 36) (.c (.int .i64 0)))⟩, ⟨(some 38), none, false, (.pick (.t 35) (.c (.bool true)) (.t 37))⟩, ⟨(some 39), none, false, (.mv (.t 38))⟩, ⟨(some 40), (some (39, false)), false, (.mv (.t 1))⟩, ⟨(some 41), (some (39, false)), false, (.bin .geq (.t 40) (.c (.int .i64 3)))⟩, ⟨(some 42), none, false, (.pick (.t 39) (.c (.bool true)) (.t 41))⟩, ⟨(some 43), none, false, (.mv (.t 42))⟩, ⟨(some 44), (some (43, false)), false, (.mv (.t 2))⟩, ⟨(some 45), (some (43, false)), false, (.bin .lss (.t 44) (.c (.int .i64 0)))⟩, ⟨(some 46), none, false, (.pick (.t 43) (.c (.bool true)) (.t 45))⟩, ⟨(some 47), none, false, (.mv (.t 46))⟩, ⟨(some 48), (some (47, false)), false, (.mv (.t 2))⟩, ⟨(some 49), (some (47, false)), false, (.bin .geq (.t 48) (.c (.int .i64 3)))⟩, ⟨(some 50), none, false, (.pick (.t 47) (.c (.bool true)) (.t 49))⟩, ⟨(some 51), none, false, (.mv (.t 50))⟩, ⟨(some 52), (some (51, false)), false, (.mv (.t 3))⟩, ⟨(some 53), (some (51, false)), false, (.bin .gtr (.t 52) (.c (.int .u64 4611686018427387904)))⟩, ⟨(some 54), none, false, (.pick (.t 51) (.c (.bool true)) (.t 53))⟩])
 (.cond (.t 54)
 (.seq (.reg [⟨(some 55), none, false, (.mv (.t 13))⟩, ⟨(some 56), none, false, (.mv (.t 55))⟩, ⟨(some 57), (some (56, true)), false, (.mv (.t 15))⟩, ⟨(some 58), (some (56, true)), false, (.bin .eql (.t 57) (.c (.int .i64 2)))⟩, ⟨(some 59), none, false, (.pick (.t 56) (.t 58) (.c (.bool false)))⟩, ⟨(some 12), none, false, (.mv (.t 59))⟩])
 .ret)
 .skip))
 (.seq (.seq (.reg [⟨(some 60), none, false, (.mv (.t 15))⟩, ⟨(some 61), none, false, (.bin .neq (.t 60) (.c (.int .i64 0)))⟩, ⟨(some 62), none, false, (.mv (.t 61))⟩, ⟨(some 63), (some (62, false)), true, (.ld true 6 (.t 14))⟩, ⟨(some 64), (some (62, false)), false, (.cal 31 [(.t 63)])⟩, ⟨(some 65), (some (62, false)), false, (.bin .neq (.t 64) (.c (.int .i64 0)))⟩, ⟨(some 66), none, false, (.pick (.t 62) (.c (.bool true)) (.t 65))⟩])
 (.cond (.t 66)
 (.seq (.reg [⟨(some 12), none, false, (.mv (.c (.bool false)))⟩])
 .ret)
 .skip))
 (.seq (.reg [⟨(some 67), none, false, (.build [(.bool false), (.bool false), (.bool false), (.bool false), (.bool false), (.bool false)] [])⟩, ⟨(some 16), none, false, (.alloc [(.bool false), (.bool false), (.bool false), (.bool false), (.bool false), (.bool false)])⟩, ⟨none, none, false, (.st 6 (.t 16) (.t 67))⟩])
 (.seq (.reg [⟨(some 68), none, false, (.iaa 6 1 (.t 16) (.c (.int .u8 1)))⟩, ⟨none, none, false, (.st 1 (.t 68) (.c (.bool true)))⟩])
 (.seq (.seq (.reg [⟨(some 17), none, false, (.mv (.c (.int .i64 0)))⟩])
 (.block 0 (.loop (.seq (.seq (.reg [⟨(some 69), none, false, (.mv (.t 17))⟩, ⟨(some 70), none, false, (.mv (.t 4))⟩, ⟨(some 71), none, false, (.len (.t 70))⟩, ⟨(some 72), none, false, (.bin .lss (.t 69) (.t 71))⟩, ⟨(some 73), none, false, (.mv (.t 72))⟩, ⟨(some 74), (some (73, true)), false, (.mv (.t 17))⟩, ⟨(some 75), (some (73, true)), false, (.mv (.t 5))⟩, ⟨(some 76), (some (73, true)), false, (.len (.t 75))⟩, ⟨(some 77), (some (73, true)), false, (.bin .lss (.t 74) (.t 76))⟩, ⟨(some 78), none, false, (.pick (.t 73) (.t 77) (.c (.bool false)))⟩])
 (.cond (.t 78)
 .skip
 (.exit 0)))
 (.seq (.block 1 (.seq (.drw [(false, ⟨(some 82), none, true, (.ld true 6 (.t 14))⟩), (false, ⟨(some 83), none, false, (.mv (.t 4))⟩), (false, ⟨(some 84), none, false, (.mv (.t 17))⟩), (false, ⟨(some 85), none, false, (.ias 1 (.t 83) (.t 84))⟩), (false, ⟨(some 86), none, true, (.ld false 1 (.t 85))⟩), (false, ⟨(some 87), none, false, (.mv (.t 5))⟩), (false, ⟨(some 88), none, false, (.mv (.t 17))⟩), (false, ⟨(some 89), none, false, (.ias 1 (.t 87) (.t 88))⟩), (false, ⟨(some 90), none, true, (.ld false 1 (.t 89))⟩), (false, ⟨(some 91), none, false, (.cal 18 [(.t 82), (.t 86), (.t 90)])⟩), (false, ⟨(some 81), none, false, (.mv (.t 91))⟩), (false, ⟨(some 92), none, false, (.ext (.t 81) 0)⟩), (true, ⟨(some 93), none, false, (.ext (.t 81) 1)⟩), (false, ⟨(some 18), none, false, (.alloc [(.int .i64 0), (.int .i64 0), (.int .i64 0), (.int .u8 0), (.int .u64 0), (.int .u64 0)])⟩), (false, ⟨none, none, false, (.st 6 (.t 18) (.t 92))⟩), (false, ⟨(some 19), none, false, (.mv (.t 93))⟩)] [])
 (.seq (.seq (.reg [⟨(some 94), none, false, (.mv (.t 19))⟩, ⟨(some 95), none, false, (.bin .neq (.t 94) (.c (.int .i64 0)))⟩])
 (.cond (.t 95)
 (.exit 1)
 .skip))
 (.seq (.seq (.drw [(false, ⟨(some 96), none, false, (.mv (.t 4))⟩), (false, ⟨(some 97), none, false, (.mv (.t 17))⟩), (false, ⟨(some 98), none, false, (.ias 1 (.t 96) (.t 97))⟩), (false, ⟨(some 99), none, false, (.ld false 1 (.t 98))⟩), (false, ⟨(some 100), none, false, (.bin .gtr (.t 99) (.c (.int .u8 5)))⟩), (false, ⟨(some 101), none, false, (.mv (.t 100))⟩), (false, ⟨(some 102), (some (101, false)), false, (.mv (.t 4))⟩), (false, ⟨(some 103), (some (101, false)), false, (.mv (.t 17))⟩), (false, ⟨(some 104), (some (101, false)), false, (.ias 1 (.t 102) (.t 103))⟩), (false, ⟨(some 105), (some (101, false)), false, (.ld false 1 (.t 104))⟩), (false, ⟨(some 106), (some (101, false)), false, (.iaa 6 1 (.t 16) (.t 105))⟩), (false, ⟨(some 107), (some (101, false)), false, (.ld false 1 (.t 106))⟩), (false, ⟨(some 108), none, false, (.pick (.t 101) (.c (.bool true)) (.t 107))⟩), (false, ⟨(some 109), none, false, (.mv (.t 108))⟩), (false, ⟨(some 110), (some (109, false)), false, (.iaa 6 1 (.t 16) (.c (.int .u8 4)))⟩), (false, ⟨(some 111), (some (109, false)), false, (.ld false 1 (.t 110))⟩), (false, ⟨(some 112), none, false, (.pick (.t 109) (.c (.bool true)) (.t 111))⟩), (false, ⟨(some 113), none, false, (.mv (.t 112))⟩), (false, ⟨(some 114), (some (113, false)), false, (.iaa 6 1 (.t 16) (.c (.int .u8 5)))⟩), (false, ⟨(some 115), (some (113, false)), false, (.ld false 1 (.t 114))⟩), (false, ⟨(some 116), none, false, (.pick (.t 113) (.c (.bool true)) (.t 115))⟩), (false, ⟨(some 117), none, false, (.mv (.t 116))⟩), (false, ⟨(some 118), (some (117, false)), false, (.fa 3 (.t 18))⟩), (false, ⟨(some 119), (some (117, false)), false, (.ld false 1 (.t 118))⟩), (false, ⟨(some 120), (some (117, false)), false, (.mv (.t 4))⟩), (false, ⟨(some 121), (some (117, false)), false, (.mv (.t 17))⟩), (false, ⟨(some 122), (some (117, false)), false, (.ias 1 (.t 120) (.t 121))⟩), (false, ⟨(some 123), (some (117, false)), false, (.ld false 1 (.t 122))⟩), (false, ⟨(some 124), (some (117, false)), false, (.bin .neq (.t 119) (.t 123))⟩), (false, ⟨(some 125), none, false, (.pick (.t 117) (.c (.bool true)) (.t 124))⟩), (false, ⟨(some 126), none, false, (.mv (.t 125))⟩), (false, ⟨(some 127), (some (126, false)), true, (.ld true 6 (.t 18))⟩), (false, ⟨(some 128), (some (126, false)), false, (.cal 31 [(.t 127)])⟩), (false, ⟨(some 129), (some (126, false)), false, (.bin .neq (.t 128) (.c (.int .i64 0)))⟩), (false, ⟨(some 130), none, false, (.pick (.t 126) (.c (.bool true)) (.t 129))⟩), (false, ⟨(some 131), none, false, (.mv (.t 130))⟩), (false, ⟨(some 132), (some (131, false)), false, (.mv (.t 5))⟩), (false, ⟨(some 133), (some (131, false)), false, (.mv (.t 17))⟩), (false, ⟨(some 134), (some (131, false)), false, (.ias 1 (.t 132) (.t 133))⟩), (false, ⟨(some 135), (some (131, false)), false, (.ld false 1 (.t 134))⟩), (false, ⟨(some 136), (some (131, false)), false, (.bin .gtr (.t 135) (.c (.int .u64 4611686018427387904)))⟩), (false, ⟨(some 137), none, false, (.pick (.t 131) (.c (.bool true)) (.t 136))⟩)] [])
 (.cond (.t 137)
 (.seq (.reg [⟨(some 12), none, false, (.mv (.c (.bool false)))⟩])
 .ret)
 .skip))
 (.seq (.seq (.drw [(false, ⟨(some 138), none, false, (.fa 0 (.t 18))⟩), (false, ⟨(some 139), none, false, (.ld false 1 (.t 138))⟩), (false, ⟨(some 140), none, false, (.mv (.t 0))⟩), (false, ⟨(some 141), none, false, (.bin .neq (.t 139) (.t 140))⟩), (false, ⟨(some 142), none, false, (.mv (.t 141))⟩), (false, ⟨(some 143), (some (142, false)), false, (.fa 1 (.t 18))⟩), (false, ⟨(some 144), (some (142, false)), false, (.ld false 1 (.t 143))⟩), (false, ⟨(some 145), (some (142, false)), false, (.mv (.t 1))⟩), (false, ⟨(some 146), (some (142, false)), false, (.bin .neq (.t 144) (.t 145))⟩), (false, ⟨(some 147), none, false, (.pick (.t 142) (.c (.bool true)) (.t 146))⟩), (false, ⟨(some 148), none, false, (.mv (.t 147))⟩), (false, ⟨(some 149), (some (148, false)), false, (.fa 2 (.t 18))⟩), (false, ⟨(some 150), (some (148, false)), false, (.ld false 1 (.t 149))⟩), (false, ⟨(some 151), (some (148, false)), false, (.mv (.t 2))⟩), (false, ⟨(some 152), (some (148, false)), false, (.bin .neq (.t 150) (.t 151))⟩), (false, ⟨(some 153), none, false, (.pick (.t 148) (.c (.bool true)) (.t 152))⟩), (false, ⟨(some 154), none, false, (.mv (.t 153))⟩), (false, ⟨(some 155), (some (154, false)), false, (.fa 4 (.t 18))⟩), (false, ⟨(some 156), (some (154, false)), false, (.ld false 1 (.t 155))⟩), (false, ⟨(some 157), (some (154, false)), false, (.mv (.t 3))⟩), (false, ⟨(some 158), (some (154, false)), false, (.bin .neq (.t 156) (.t 157))⟩), (false, ⟨(some 159), none, false, (.pick (.t 154) (.c (.bool true)) (.t 158))⟩), (false, ⟨(some 160), none, false, (.mv (.t 159))⟩), (false, ⟨(some 161), (some (160, false)), false, (.fa 5 (.t 18))⟩), (false, ⟨(some 162), (some (160, false)), false, (.ld false 1 (.t 161))⟩), (false, ⟨(some 163), (some (160, false)), false, (.bin .neq (.t 162) (.c (.int .u64 0)))⟩), (false, ⟨(some 164), (some (160, false)), false, (.fa 3 (.t 18))⟩), (false, ⟨(some 165), (some (160, false)), false, (.ld false 1 (.t 164))⟩), (false, ⟨(some 166), (some (160, false)), false, (.bin .eql (.t 165) (.c (.int .u8 4)))⟩), (false, ⟨(some 167), (some (160, false)), false, (.eqb true (.t 163) (.t 166))⟩), (false, ⟨(some 168), none, false, (.pick (.t 160) (.c (.bool true)) (.t 167))⟩), (false, ⟨(some 169), none, false, (.mv (.t 168))⟩), (false, ⟨(some 170), (some (169, false)), false, (.fa 5 (.t 18))⟩), (false, ⟨(some 171), (some (169, false)), false, (.ld false 1 (.t 170))⟩), (false, ⟨(some 172), (some (169, false)), false, (.bin .neq (.t 171) (.c (.int .u64 0)))⟩), (false, ⟨(some 173), (some (169, false)), false, (.mv (.t 172))⟩), (false, ⟨(some 174), (some (173, true)), false, (.fa 5 (.t 18))⟩), (false, ⟨(some 175), (some (173, true)), false, (.ld false 1 (.t 174))⟩), (false, ⟨(some 176), (some (173, true)), false, (.mv (.t 5))⟩), (false, ⟨(some 177), (some (173, true)), false, (.mv (.t 17))⟩), (false, ⟨(some 178), (some (173, true)), false, (.ias 1 (.t 176) (.t 177))⟩), (false, ⟨(some 179), (some (173, true)), false, (.ld false 1 (.t 178))⟩), (false, ⟨(some 180), (some (173, true)), false, (.bin .neq (.t 175) (.t 179))⟩), (false, ⟨(some 181), (some (169, false)), false, (.pick (.t 173) (.t 180) (.c (.bool false)))⟩), (false, ⟨(some 182), none, false, (.pick (.t 169) (.c (.bool true)) (.t 181))⟩)] [])
 (.cond (.t 182)
 (.seq (.reg [⟨(some 12), none, false, (.mv (.c (.bool false)))⟩])
 .ret)
 .skip))
 (.seq (.seq (.reg [⟨(some 183), none, false, (.fa 3 (.t 18))⟩, ⟨(some 184), none, false, (.ld false 1 (.t 183))⟩, ⟨(some 185), none, false, (.bin .eql (.t 184) (.c (.int .u8 3)))⟩, ⟨(some 186), none, false, (.mv (.t 185))⟩, ⟨(some 187), (some (186, true)), false, (.iaa 6 1 (.t 16) (.c (.int .u8 2)))⟩, ⟨(some 188), (some (186, true)), false, (.ld false 1 (.t 187))⟩, ⟨(some 189), (some (186, true)), false, (.not (.t 188))⟩, ⟨(some 190), none, false, (.pick (.t 186) (.t 189) (.c (.bool false)))⟩, ⟨(some 191), none, false, (.mv (.t 190))⟩, ⟨(some 192), (some (191, false)), false, (.fa 3 (.t 18))⟩, ⟨(some 193), (some (191, false)), false, (.ld false 1 (.t 192))⟩, ⟨(some 194), (some (191, false)), false, (.bin .eql (.t 193) (.c (.int .u8 4)))⟩, ⟨(some 195), (some (191, false)), false, (.mv (.t 194))⟩, ⟨(some 196), (some (195, true)), false, (.iaa 6 1 (.t 16) (.c (.int .u8 3)))⟩, ⟨(some 197), (some (195, true)), false, (.ld false 1 (.t 196))⟩, ⟨(some 198), (some (195, true)), false, (.not (.t 197))⟩, ⟨(some 199), (some (191, false)), false, (.pick (.t 195) (.t 198) (.c (.bool false)))⟩, ⟨(some 200), none, false, (.pick (.t 191) (.c (.bool true)) (.t 199))⟩, ⟨(some 201), none, false, (.mv (.t 200))⟩, ⟨(some 202), (some (201, false)), false, (.fa 3 (.t 18))⟩, ⟨(some 203), (some (201, false)), false, (.ld false 1 (.t 202))⟩, ⟨(some 204), (some (201, false)), false, (.bin .eql (.t 203) (.c (.int .u8 5)))⟩, ⟨(some 205), (some (201, false)), false, (.mv (.t 204))⟩, ⟨(some 206), (some (205, true)), false, (.iaa 6 1 (.t 16) (.c (.int .u8 2)))⟩, ⟨(some 207), (some (205, true)), false, (.ld false 1 (.t 206))⟩, ⟨(some 208), (some (201, false)), false, (.pick (.t 205) (.t 207) (.c (.bool false)))⟩, ⟨(some 209), none, false, (.pick (.t 201) (.c (.bool true)) (.t 208))⟩])
 (.cond (.t 209)
 (.seq (.reg [⟨(some 12), none, false, (.mv (.c (.bool false)))⟩])
 .ret)
 .skip))
 (.seq (.reg [⟨(some 210), none, false, (.fa 3 (.t 18))⟩, ⟨(some 211), none, false, (.ld false 1 (.t 210))⟩, ⟨(some 212), none, false, (.iaa 6 1 (.t 16) (.t 211))⟩, ⟨none, none, false, (.st 1 (.t 212) (.c (.bool true)))⟩])
 (.reg [⟨(some 213), none, false, (.ld true 6 (.t 18))⟩, ⟨none, none, false, (.st 6 (.t 14) (.t 213))⟩]))))))))
 (.reg [⟨(some 79), none, false, (.mv (.t 17))⟩, ⟨(some 80), none, false, (.bin .add (.t 79) (.c (.int .i64 1)))⟩, ⟨(some 17), none, false, (.mv (.t 80))⟩]))))))
 (.seq (.reg [⟨(some 214), none, false, (.mv (.t 13))⟩, ⟨(some 12), none, false, (.mv (.t 214))⟩])
 .ret)))))))))
theorem l8 : ∃ c, f8.body = some c ∧ liteC prog f8.ntmps c = some q8 := ⟨_, rfl, by kernel_rfl⟩
theorem e8 : prog.funcs[8]? = some f8 := by kernel_rfl
theorem r8 : mapO (resOf prog) f8.results.toList = some [(.t 12)] := by kernel_rfl
theorem n8 : f8.ntmps = 215 := rfl
def T8 : TE := .fn q8 [(.t 12)] 215
theorem te8 : TEOK prog 8 T8 := te_fn e8 l8 rfl r8 n8

def q9 : RQ :=
 (.seq (.reg [⟨(some 4), none, false, (.box (.t 0))⟩, ⟨(some 8), none, false, (.mv (.c (.bool false)))⟩])
 (.seq (.reg [⟨(some 20), none, false, (.cal 17 [])⟩, ⟨(some 9), none, false, (.mv (.t 20))⟩])
 (.seq (.reg [⟨(some 21), none, true, (.ld true 2 (.t 4))⟩, ⟨(some 22), none, true, (.mv (.t 1))⟩, ⟨(some 23), none, true, (.mv (.t 2))⟩, ⟨(some 24), none, false, (.cal 21 [(.t 21), (.t 22), (.t 23)])⟩, ⟨(some 10), none, false, (.mv (.t 24))⟩])
 (.seq (.seq (.reg [⟨(some 25), none, true, (.ld true 2 (.t 4))⟩, ⟨(some 26), none, true, (.mv (.t 1))⟩, ⟨(some 27), none, true, (.mv (.t 2))⟩, ⟨(some 28), none, false, (.cal 35 [(.t 25), (.t 26), (.t 27)])⟩, ⟨(some 29), none, false, (.bin .neq (.t 28) (.c (.int .i64 0)))⟩])
 (.cond (.t 29)
 (.seq (.reg [⟨(some 30), none, false, (.mv (.t 9))⟩, ⟨(some 31), none, false, (.mv (.t 30))⟩, ⟨(some 32), (some (31, true)), false, (.mv (.t 10))⟩, ⟨(some 33), (some (31, true)), false, (.bin .neq (.t 32) (.c (.int .i64 0)))⟩, ⟨(some 34), none, false, (.pick (.t 31) (.t 33) (.c (.bool false)))⟩, ⟨(some 8), none, false, (.mv (.t 34))⟩])
 .ret)
 .skip))
 (.seq (.seq (.reg [⟨(some 35), none, false, (.mv (.t 10))⟩, ⟨(some 36), none, false, (.bin .neq (.t 35) (.c (.int .i64 0)))⟩])
 (.cond (.t 36)
 (.seq (.reg [⟨(some 8), none, false, (.mv (.c (.bool false)))⟩])
 .ret)
 .skip))
 (.seq (.reg [⟨(some 11), none, false, (.mv (.c (.int .i64 0)))⟩])
 (.seq (.seq (.reg [⟨(some 12), none, false, (.mv (.c (.int .i64 0)))⟩])
 (.block 0 (.loop (.seq (.seq (.reg [⟨(some 37), none, false, (.mv (.t 12))⟩, ⟨(some 38), none, false, (.mv (.t 3))⟩, ⟨(some 39), none, false, (.len (.t 38))⟩, ⟨(some 40), none, false, (.bin .lss (.t 37) (.t 39))⟩])
 (.cond (.t 40)
 .skip
 (.exit 0)))
 (.seq (.block 1 (.seq (.drw [(false, ⟨(some 44), none, true, (.ld true 2 (.t 4))⟩), (false, ⟨(some 45), none, true, (.mv (.t 1))⟩), (false, ⟨(some 46), none, true, (.mv (.t 2))⟩), (false, ⟨(some 47), none, false, (.mv (.t 3))⟩), (false, ⟨(some 48), none, false, (.mv (.t 12))⟩), (false, ⟨(some 49), none, false, (.ias 1 (.t 47) (.t 48))⟩), (false, ⟨(some 50), none, true, (.ld false 1 (.t 49))⟩), (false, ⟨(some 51), none, false, (.cal 20 [(.t 44), (.t 45), (.t 46), (.t 50)])⟩), (false, ⟨(some 43), none, false, (.mv (.t 51))⟩), (false, ⟨(some 52), none, false, (.ext (.t 43) 0)⟩), (false, ⟨(some 53), none, false, (.ext (.t 43) 1)⟩), (false, ⟨(some 13), none, false, (.mv (.t 52))⟩), (false, ⟨(some 14), none, false, (.mv (.t 53))⟩)] [])
 (.seq (.drw [(false, ⟨(some 55), none, true, (.ld true 2 (.t 4))⟩), (false, ⟨(some 56), none, true, (.mv (.t 1))⟩), (false, ⟨(some 57), none, true, (.mv (.t 2))⟩), (false, ⟨(some 58), none, false, (.mv (.t 3))⟩), (false, ⟨(some 59), none, false, (.mv (.t 12))⟩), (false, ⟨(some 60), none, false, (.ias 1 (.t 58) (.t 59))⟩), (false, ⟨(some 61), none, true, (.ld false 1 (.t 60))⟩), (false, ⟨(some 62), none, false, (.cal 19 [(.t 55), (.t 56), (.t 57), (.t 61)])⟩), (false, ⟨(some 54), none, false, (.mv (.t 62))⟩), (false, ⟨(some 63), none, false, (.ext (.t 54) 0)⟩), (true, ⟨(some 64), none, false, (.ext (.t 54) 1)⟩), (false, ⟨(some 15), none, false, (.alloc [(.int .u64 0), (.int .i64 0)])⟩), (false, ⟨none, none, false, (.st 2 (.t 15) (.t 63))⟩), (false, ⟨(some 16), none, false, (.mv (.t 64))⟩)] [])
 (.seq (.seq (.reg [⟨(some 65), none, false, (.mv (.t 3))⟩, ⟨(some 66), none, false, (.mv (.t 12))⟩, ⟨(some 67), none, false, (.ias 1 (.t 65) (.t 66))⟩, ⟨(some 68), none, false, (.ld false 1 (.t 67))⟩, ⟨(some 69), none, false, (.bin .gtr (.t 68) (.c (.int .u64 4611686018427387904)))⟩])
 (.cond (.t 69)
 (.seq (.seq (.reg [⟨(some 70), none, false, (.mv (.t 14))⟩, ⟨(some 71), none, false, (.bin .neq (.t 70) (.c (.int .i64 2)))⟩, ⟨(some 72), none, false, (.mv (.t 71))⟩, ⟨(some 73), (some (72, false)), false, (.mv (.t 16))⟩, ⟨(some 74), (some (72, false)), false, (.bin .neq (.t 73) (.c (.int .i64 2)))⟩, ⟨(some 75), none, false, (.pick (.t 72) (.c (.bool true)) (.t 74))⟩])
 (.cond (.t 75)
 (.seq (.reg [⟨(some 8), none, false, (.mv (.c (.bool false)))⟩])
 .ret)
 .skip))
 (.exit 1))
 .skip))
 (.seq (.reg [⟨(some 76), none, false, (.mv (.t 3))⟩, ⟨(some 77), none, false, (.mv (.t 12))⟩, ⟨(some 78), none, false, (.ias 1 (.t 76) (.t 77))⟩, ⟨(some 79), none, false, (.ld false 1 (.t 78))⟩, ⟨(some 80), none, false, (.mv (.t 1))⟩, ⟨(some 81), none, false, (.cv .u64 (.t 80))⟩, ⟨(some 82), none, false, (.bin .quo (.t 79) (.t 81))⟩, ⟨(some 17), none, false, (.mv (.t 82))⟩])
 (.seq (.seq (.reg [⟨(some 83), none, false, (.mv (.t 17))⟩, ⟨(some 84), none, false, (.fa 0 (.t 4))⟩, ⟨(some 85), none, false, (.ld false 1 (.t 84))⟩, ⟨(some 86), none, false, (.bin .neq (.t 83) (.t 85))⟩])
 (.cond (.t 86)
 (.reg [⟨(some 11), none, false, (.mv (.c (.int .i64 0)))⟩])
 .skip))
 (.seq (.seq (.reg [⟨(some 87), none, false, (.mv (.t 14))⟩, ⟨(some 88), none, false, (.bin .neq (.t 87) (.c (.int .i64 0)))⟩, ⟨(some 89), none, false, (.mv (.t 88))⟩, ⟨(some 90), (some (89, false)), false, (.mv (.t 13))⟩, ⟨(some 91), (some (89, false)), false, (.bin .lss (.t 90) (.c (.int .i64 0)))⟩, ⟨(some 92), none, false, (.pick (.t 89) (.c (.bool true)) (.t 91))⟩, ⟨(some 93), none, false, (.mv (.t 92))⟩, ⟨(some 94), (some (93, false)), false, (.mv (.t 13))⟩, ⟨(some 95), (some (93, false)), false, (.mv (.t 2))⟩, ⟨(some 96), (some (93, false)), false, (.bin .gtr (.t 94) (.t 95))⟩, ⟨(some 97), none, false, (.pick (.t 93) (.c (.bool true)) (.t 96))⟩, ⟨(some 98), none, false, (.mv (.t 97))⟩, ⟨(some 99), (some (98, false)), false, (.mv (.t 17))⟩, ⟨(some 100), (some (98, false)), false, (.fa 0 (.t 4))⟩, ⟨(some 101), (some (98, false)), false, (.ld false 1 (.t 100))⟩, ⟨(some 102), (some (98, false)), false, (.bin .neq (.t 99) (.t 101))⟩, ⟨(some 103), (some (98, false)), false, (.mv (.t 102))⟩, ⟨(some 104), (some (103, true)), false, (.mv (.t 13))⟩, ⟨(some 105), (some (103, true)), false, (.mv (.t 2))⟩, ⟨(some 106), (some (103, true)), false, (.bin .neq (.t 104) (.t 105))⟩, ⟨(some 107), (some (98, false)), false, (.pick (.t 103) (.t 106) (.c (.bool false)))⟩, ⟨(some 108), none, false, (.pick (.t 98) (.c (.bool true)) (.t 107))⟩, ⟨(some 109), none, false, (.mv (.t 108))⟩, ⟨(some 110), (some (109, false)), false, (.mv (.t 16))⟩, ⟨(some 111), (some (109, false)), false, (.bin .eql (.t 110) (.c (.int .i64 0)))⟩, ⟨(some 112), (some (109, false)), false, (.mv (.t 13))⟩, ⟨(some 113), (some (109, false)), false, (.bin .gtr (.t 112) (.c (.int .i64 0)))⟩, ⟨(some 114), (some (109, false)), false, (.eqb true (.t 111) (.t 113))⟩, ⟨(some 115), none, false, (.pick (.t 109) (.c (.bool true)) (.t 114))⟩, ⟨(some 116), none, false, (.mv (.t 115))⟩, ⟨(some 117), (some (116, false)), false, (.mv (.t 16))⟩, ⟨(some 118), (some (116, false)), false, (.bin .neq (.t 117) (.c (.int .i64 0)))⟩, ⟨(some 119), (some (116, false)), false, (.mv (.t 118))⟩, ⟨(some 120), (some (119, true)), false, (.mv (.t 16))⟩, ⟨(some 121), (some (119, true)), false, (.bin .neq (.t 120) (.c (.int .i64 160)))⟩, ⟨(some 122), (some (116, false)), false, (.pick (.t 119) (.t 121) (.c (.bool false)))⟩, ⟨(some 123), none, false, (.pick (.t 116) (.c (.bool true)) (.t 122))⟩])
 (.cond (.t 123)
 (.seq (.reg [⟨(some 8), none, false, (.mv (.c (.bool false)))⟩])
 .ret)
 .skip))
 (.seq (.seq (.reg [⟨(some 124), none, false, (.mv (.t 16))⟩, ⟨(some 125), none, false, (.bin .neq (.t 124) (.c (.int .i64 0)))⟩])
 (.cond (.t 125)
 (.exit 1)
 .skip))
 (.seq (.drw [(false, ⟨(some 127), none, true, (.ld true 2 (.t 15))⟩), (false, ⟨(some 128), none, true, (.mv (.t 1))⟩), (false, ⟨(some 129), none, true, (.mv (.t 2))⟩), (false, ⟨(some 130), none, false, (.mv (.t 3))⟩), (false, ⟨(some 131), none, false, (.mv (.t 12))⟩), (false, ⟨(some 132), none, false, (.ias 1 (.t 130) (.t 131))⟩), (false, ⟨(some 133), none, true, (.ld false 1 (.t 132))⟩), (false, ⟨(some 134), none, false, (.cal 20 [(.t 127), (.t 128), (.t 129), (.t 133)])⟩), (false, ⟨(some 126), none, false, (.mv (.t 134))⟩), (false, ⟨(some 135), none, false, (.ext (.t 126) 0)⟩), (false, ⟨(some 136), none, false, (.ext (.t 126) 1)⟩), (false, ⟨(some 18), none, false, (.mv (.t 135))⟩), (false, ⟨(some 19), none, false, (.mv (.t 136))⟩)] [])
 (.seq (.reg [⟨(some 137), none, false, (.mv (.t 11))⟩, ⟨(some 138), none, false, (.bin .add (.t 137) (.c (.int .i64 1)))⟩, ⟨(some 11), none, false, (.mv (.t 138))⟩])
 (.seq (.seq (.reg [⟨(some 139), none, false, (.mv (.t 19))⟩, ⟨(some 140), none, false, (.bin .neq (.t 139) (.c (.int .i64 0)))⟩, ⟨(some 141), none, false, (.mv (.t 140))⟩, ⟨(some 142), (some (141, false)), false, (.mv (.t 18))⟩, ⟨(some 143), (some (141, false)), false, (.mv (.t 13))⟩, ⟨(some 144), (some (141, false)), false, (.bin .sub (.t 143) (.c (.int .i64 1)))⟩, ⟨(some 145), (some (141, false)), false, (.bin .neq (.t 142) (.t 144))⟩, ⟨(some 146), none, false, (.pick (.t 141) (.c (.bool true)) (.t 145))⟩, ⟨(some 147), none, false, (.mv (.t 146))⟩, ⟨(some 148), (some (147, false)), false, (.fa 0 (.t 15))⟩, ⟨(some 149), (some (147, false)), false, (.ld false 1 (.t 148))⟩, ⟨(some 150), (some (147, false)), false, (.mv (.t 17))⟩, ⟨(some 151), (some (147, false)), false, (.bin .neq (.t 149) (.t 150))⟩, ⟨(some 152), none, false, (.pick (.t 147) (.c (.bool true)) (.t 151))⟩, ⟨(some 153), none, false, (.mv (.t 152))⟩, ⟨(some 154), (some (153, false)), true, (.ld true 2 (.t 15))⟩, ⟨(some 155), (some (153, false)), true, (.mv (.t 1))⟩, ⟨(some 156), (some (153, false)), true, (.mv (.t 2))⟩, ⟨(some 157), (some (153, false)), false, (.cal 21 [(.t 154), (.t 155), (.t 156)])⟩, ⟨(some 158), (some (153, false)), false, (.bin .neq (.t 157) (.c (.int .i64 0)))⟩, ⟨(some 159), none, false, (.pick (.t 153) (.c (.bool true)) (.t 158))⟩, ⟨(some 160), none, false, (.mv (.t 159))⟩, ⟨(some 161), (some (160, false)), false, (.mv (.t 11))⟩, ⟨(some 162), (some (160, false)), false, (.mv (.t 2))⟩, ⟨(some 163), (some (160, false)), false, (.bin .gtr (.t 161) (.t 162))⟩, ⟨(some 164), none, false, (.pick (.t 160) (.c (.bool true)) (.t 163))⟩])
 (.cond (.t 164)
 (.seq (.reg [⟨(some 8), none, false, (.mv (.c (.bool false)))⟩])
 .ret)
 .skip))
 (.reg [⟨(some 165), none, false, (.ld true 2 (.t 15))⟩, ⟨none, none, false, (.st 2 (.t 4) (.t 165))⟩]))))))))))))
 (.reg [⟨(some 41), none, false, (.mv (.t 12))⟩, ⟨(some 42), none, false, (.bin .add (.t 41) (.c (.int .i64 1)))⟩, ⟨(some 12), none, false, (.mv (.t 42))⟩]))))))
 (.seq (.reg [⟨(some 166), none, false, (.mv (.t 9))⟩, ⟨(some 8), none, false, (.mv (.t 166))⟩])
 .ret))))))))
theorem l9 : ∃ c, f9.body = some c ∧ liteC prog f9.ntmps c = some q9 := ⟨_, rfl, by kernel_rfl⟩
theorem e9 : prog.funcs[9]? = some f9 := by kernel_rfl
theorem r9 : mapO (resOf prog) f9.results.toList = some [(.t 8)] := by kernel_rfl
theorem n9 : f9.ntmps = 167 := rfl
def T9 : TE := .fn q9 [(.t 8)] 167
theorem te9 : TEOK prog 9 T9 := te_fn e9 l9 rfl r9 n9

def q10 : RQ :=
 (.seq (.reg [⟨(some 2), none, false, (.box (.t 0))⟩, ⟨(some 4), none, false, (.mv (.c (.bool false)))⟩])
 (.seq (.reg [⟨(some 15), none, false, (.cal 17 [])⟩, ⟨(some 5), none, false, (.mv (.t 15))⟩])
 (.seq (.seq (.reg [⟨(some 16), none, true, (.ld true 8 (.t 2))⟩, ⟨(some 17), none, false, (.cal 42 [(.t 16)])⟩, ⟨(some 18), none, false, (.not (.t 17))⟩, ⟨(some 19), none, false, (.mv (.t 18))⟩, ⟨(some 20), (some (19, false)), false, (.mv (.t 1))⟩, ⟨(some 21), (some (19, false)), false, (.len (.t 20))⟩, ⟨(some 22), (some (19, false)), false, (.bin .gtr (.t 21) (.c (.int .i64 300)))⟩, ⟨(some 23), none, false, (.pick (.t 19) (.c (.bool true)) (.t 22))⟩])
 (.cond (.t 23)
 (.seq (.reg [⟨(some 24), none, false, (.mv (.t 5))⟩, ⟨(some 4), none, false, (.mv (.t 24))⟩])
 .ret)
 .skip))
 (.seq (.reg [⟨(some 25), none, false, (.build [.nils, .nils, (.int .u64 0), (.int .i64 0)] [])⟩, ⟨(some 6), none, false, (.alloc [.nils, .nils, (.int .u64 0), (.int .i64 0)])⟩, ⟨none, none, false, (.st 4 (.t 6) (.t 25))⟩])
 (.seq (.reg [⟨(some 7), none, false, (.mv (.c .nils))⟩])
 (.seq (.reg [⟨(some 8), none, false, (.mv (.c (.int .i64 1)))⟩, ⟨(some 9), none, false, (.mv (.c (.int .i64 0)))⟩])
 (.seq (.seq (.reg [⟨(some 10), none, false, (.mv (.c (.int .i64 0)))⟩])
 (.block 0 (.loop (.seq (.seq (.reg [⟨(some 26), none, false, (.mv (.t 10))⟩, ⟨(some 27), none, false, (.mv (.t 1))⟩, ⟨(some 28), none, false, (.len (.t 27))⟩, ⟨(some 29), none, false, (.bin .lss (.t 26) (.t 28))⟩])
 (.cond (.t 29)
 .skip
 (.exit 0)))
 (.seq (.block 1 (.seq (.drw [(false, ⟨(some 32), none, true, (.ld true 8 (.t 2))⟩), (false, ⟨(some 33), none, true, (.ld true 4 (.t 6))⟩), (false, ⟨(some 34), none, false, (.mv (.t 1))⟩), (false, ⟨(some 35), none, false, (.mv (.t 10))⟩), (false, ⟨(some 36), none, false, (.ias 5 (.t 34) (.t 35))⟩), (false, ⟨(some 37), none, true, (.ld true 5 (.t 36))⟩), (false, ⟨(some 38), none, false, (.cal 24 [(.t 32), (.t 33), (.t 37)])⟩), (false, ⟨(some 11), none, false, (.alloc [.nils, .nils, (.int .u64 0), (.int .i64 0), (.int .i64 0), (.int .i64 0), (.int .i64 0), (.int .i64 0), (.int .u8 0), (.int .u64 0), (.int .u64 0), (.int .i64 0), (.int .i64 0), (.int .i64 0), (.int .i64 0), (.int .i64 0), (.int .i64 0), (.int .i64 0)])⟩)] [⟨none, none, false, (.st 18 (.t 11) (.t 38))⟩])
 (.seq (.seq (.reg [⟨(some 39), none, false, (.fa 17 (.t 11))⟩, ⟨(some 40), none, false, (.ld false 1 (.t 39))⟩, ⟨(some 41), none, false, (.bin .neq (.t 40) (.c (.int .i64 0)))⟩, ⟨(some 42), none, false, (.mv (.t 41))⟩, ⟨(some 43), (some (42, false)), false, (.mv (.t 1))⟩, ⟨(some 44), (some (42, false)), false, (.mv (.t 10))⟩, ⟨(some 45), (some (42, false)), false, (.ias 5 (.t 43) (.t 44))⟩, ⟨(some 46), (some (42, false)), true, (.ld true 5 (.t 45))⟩, ⟨(some 47), (some (42, false)), false, (.cal 26 [(.t 46)])⟩, ⟨(some 48), (some (42, false)), false, (.not (.t 47))⟩, ⟨(some 49), none, false, (.pick (.t 42) (.c (.bool true)) (.t 48))⟩])
 (.cond (.t 49)
 (.exit 1)
 .skip))
 (.seq (.reg [⟨(some 50), none, false, (.fa 0 (.t 11))⟩, ⟨(some 51), none, false, (.ld true 4 (.t 50))⟩, ⟨none, none, false, (.st 4 (.t 6) (.t 51))⟩])
 (.seq (.seq (.reg [⟨(some 52), none, false, (.mv (.t 1))⟩, ⟨(some 53), none, false, (.mv (.t 10))⟩, ⟨(some 54), none, false, (.ias 5 (.t 52) (.t 53))⟩, ⟨(some 55), none, false, (.fa 0 (.t 54))⟩, ⟨(some 56), none, false, (.ld false 1 (.t 55))⟩, ⟨(some 57), none, false, (.bin .rem (.t 56) (.c (.int .u8 7)))⟩])
 (.block 2 (.seq (.reg [⟨(some 59), none, false, (.bin .eql (.t 57) (.c (.int .u8 0)))⟩, ⟨(some 58), none, false, (.mv (.t 59))⟩])
 (.cond (.t 58)
 (.seq (.seq (.reg [⟨(some 60), none, false, (.fa 4 (.t 11))⟩, ⟨(some 61), none, false, (.ld false 1 (.t 60))⟩, ⟨(some 62), none, false, (.mv (.t 8))⟩, ⟨(some 63), none, false, (.bin .neq (.t 61) (.t 62))⟩])
 (.cond (.t 63)
 (.seq (.reg [⟨(some 4), none, false, (.mv (.c (.bool false)))⟩])
 .ret)
 .skip))
 (.seq (.reg [⟨(some 64), none, false, (.mv (.t 7))⟩, ⟨(some 65), none, false, (.mv (.t 8))⟩, ⟨(some 66), none, true, (.bslice 1 1 [(.int .i64 0)] [(0, (.t 65))])⟩, ⟨(some 67), none, false, (.app 1 8 [(.int .i64 0)] (.t 64) (.t 66))⟩, ⟨(some 7), none, false, (.mv (.t 67))⟩])
 (.reg [⟨(some 68), none, false, (.mv (.t 8))⟩, ⟨(some 69), none, false, (.bin .add (.t 68) (.c (.int .i64 1)))⟩, ⟨(some 8), none, false, (.mv (.t 69))⟩])))
 (.seq (.reg [⟨(some 71), none, false, (.bin .eql (.t 57) (.c (.int .u8 2)))⟩, ⟨(some 70), none, false, (.mv (.t 71))⟩])
 (.cond (.t 70)
 (.seq (.seq (.drw [(false, ⟨(some 72), none, false, (.mv (.t 7))⟩), (false, ⟨(some 73), none, false, (.len (.t 72))⟩), (false, ⟨(some 74), none, false, (.bin .eql (.t 73) (.c (.int .i64 0)))⟩), (false, ⟨(some 75), none, false, (.mv (.t 74))⟩), (false, ⟨(some 76), (some (75, false)), false, (.fa 4 (.t 11))⟩), (false, ⟨(some 77), (some (75, false)), false, (.ld false 1 (.t 76))⟩), (false, ⟨(some 78), (some (75, false)), false, (.mv (.t 7))⟩), (false, ⟨(some 79), (some (75, false)), false, (.ias 1 (.t 78) (.c (.int .i64 0)))⟩), (false, ⟨(some 80), (some (75, false)), false, (.ld false 1 (.t 79))⟩), (false, ⟨(some 81), (some (75, false)), false, (.bin .neq (.t 77) (.t 80))⟩), (false, ⟨(some 82), none, false, (.pick (.t 75) (.c (.bool true)) (.t 81))⟩), (false, ⟨(some 83), none, false, (.mv (.t 82))⟩), (false, ⟨(some 84), (some (83, false)), false, (.fa 4 (.t 11))⟩), (false, ⟨(some 85), (some (83, false)), false, (.ld false 1 (.t 84))⟩), (false, ⟨(some 86), (some (83, false)), false, (.mv (.t 9))⟩), (false, ⟨(some 87), (some (83, false)), false, (.bin .leq (.t 85) (.t 86))⟩), (false, ⟨(some 88), none, false, (.pick (.t 83) (.c (.bool true)) (.t 87))⟩)] [])
 (.cond (.t 88)
 (.seq (.reg [⟨(some 4), none, false, (.mv (.c (.bool false)))⟩])
 .ret)
 .skip))
 (.seq (.reg [⟨(some 89), none, false, (.fa 4 (.t 11))⟩, ⟨(some 90), none, false, (.ld false 1 (.t 89))⟩, ⟨(some 9), none, false, (.mv (.t 90))⟩])
 (.reg [⟨(some 91), none, false, (.mv (.t 7))⟩, ⟨(some 92), none, false, (.slc 1 (.t 91) (some (.c (.int .i64 1))) none)⟩, ⟨(some 7), none, false, (.mv (.t 92))⟩])))
 (.seq (.reg [⟨(some 94), none, false, (.bin .eql (.t 57) (.c (.int .u8 1)))⟩, ⟨(some 93), none, false, (.mv (.t 94))⟩])
 (.cond (.t 93)
 (.seq (.reg [⟨(some 12), none, false, (.mv (.c .nils))⟩])
 (.seq (.seq (.reg [⟨(some 13), none, false, (.mv (.c (.int .i64 0)))⟩])
 (.block 3 (.loop (.seq (.seq (.reg [⟨(some 95), none, false, (.mv (.t 13))⟩, ⟨(some 96), none, false, (.mv (.t 7))⟩, ⟨(some 97), none, false, (.len (.t 96))⟩, ⟨(some 98), none, false, (.bin .lss (.t 95) (.t 97))⟩])
 (.cond (.t 98)
 .skip
 (.exit 3)))
 (.seq (.block 4 (.seq (.drw [(false, ⟨(some 101), none, false, (.mv (.t 7))⟩), (false, ⟨(some 102), none, false, (.mv (.t 13))⟩), (false, ⟨(some 103), none, false, (.ias 1 (.t 101) (.t 102))⟩), (false, ⟨(some 104), none, false, (.ld false 1 (.t 103))⟩), (false, ⟨(some 105), none, false, (.mv (.t 1))⟩), (false, ⟨(some 106), none, false, (.mv (.t 10))⟩), (false, ⟨(some 107), none, false, (.ias 5 (.t 105) (.t 106))⟩), (false, ⟨(some 108), none, false, (.fa 3 (.t 107))⟩), (false, ⟨(some 109), none, false, (.ld false 1 (.t 108))⟩), (false, ⟨(some 110), none, false, (.bin .neq (.t 104) (.t 109))⟩)] [])
 (.cond (.t 110)
 (.reg [⟨(some 111), none, false, (.mv (.t 12))⟩, ⟨(some 112), none, false, (.mv (.t 7))⟩, ⟨(some 113), none, false, (.mv (.t 13))⟩, ⟨(some 114), none, false, (.ias 1 (.t 112) (.t 113))⟩, ⟨(some 115), none, false, (.ld false 1 (.t 114))⟩, ⟨(some 116), none, true, (.bslice 1 1 [(.int .i64 0)] [(0, (.t 115))])⟩, ⟨(some 117), none, false, (.app 1 8 [(.int .i64 0)] (.t 111) (.t 116))⟩, ⟨(some 12), none, false, (.mv (.t 117))⟩])
 .skip)))
 (.reg [⟨(some 99), none, false, (.mv (.t 13))⟩, ⟨(some 100), none, false, (.bin .add (.t 99) (.c (.int .i64 1)))⟩, ⟨(some 13), none, false, (.mv (.t 100))⟩]))))))
 (.seq (.seq (.reg [⟨(some 118), none, false, (.mv (.t 12))⟩, ⟨(some 119), none, false, (.len (.t 118))⟩, ⟨(some 120), none, false, (.mv (.t 7))⟩, ⟨(some 121), none, false, (.len (.t 120))⟩, ⟨(some 122), none, false, (.bin .sub (.t 121) (.c (.int .i64 1)))⟩, ⟨(some 123), none, false, (.bin .neq (.t 119) (.t 122))⟩])
 (.cond (.t 123)
 (.seq (.reg [⟨(some 4), none, false, (.mv (.c (.bool false)))⟩])
 .ret)
 .skip))
 (.reg [⟨(some 124), none, false, (.mv (.t 12))⟩, ⟨(some 7), none, false, (.mv (.t 124))⟩]))))
 .skip))))))))
 (.seq (.seq (.reg [⟨(some 125), none, true, (.ld true 8 (.t 2))⟩, ⟨(some 126), none, true, (.ld true 4 (.t 6))⟩, ⟨(some 127), none, false, (.cal 29 [(.t 125), (.t 126)])⟩, ⟨(some 128), none, false, (.bin .neq (.t 127) (.c (.int .i64 0)))⟩, ⟨(some 129), none, false, (.mv (.t 128))⟩, ⟨(some 130), (some (129, false)), false, (.fa 0 (.t 6))⟩, ⟨(some 131), (some (129, false)), false, (.ld false 1 (.t 130))⟩, ⟨(some 132), (some (129, false)), false, (.len (.t 131))⟩, ⟨(some 133), (some (129, false)), false, (.mv (.t 8))⟩, ⟨(some 134), (some (129, false)), false, (.bin .sub (.t 133) (.c (.int .i64 1)))⟩, ⟨(some 135), (some (129, false)), false, (.bin .neq (.t 132) (.t 134))⟩, ⟨(some 136), none, false, (.pick (.t 129) (.c (.bool true)) (.t 135))⟩, ⟨(some 137), none, false, (.mv (.t 136))⟩, ⟨(some 138), (some (137, false)), false, (.mv (.t 7))⟩, ⟨(some 139), (some (137, false)), false, (.len (.t 138))⟩, ⟨(some 140), (some (137, false)), false, (.fa 5 (.t 2))⟩, ⟨(some 141), (some (137, false)), false, (.ld false 1 (.t 140))⟩, ⟨(some 142), (some (137, false)), false, (.bin .gtr (.t 139) (.t 141))⟩, ⟨(some 143), none, false, (.pick (.t 137) (.c (.bool true)) (.t 142))⟩, ⟨(some 144), none, false, (.mv (.t 143))⟩, ⟨(some 145), (some (144, false)), false, (.fa 1 (.t 6))⟩, ⟨(some 146), (some (144, false)), false, (.ld false 1 (.t 145))⟩, ⟨(some 147), (some (144, false)), false, (.len (.t 146))⟩, ⟨(some 148), (some (144, false)), false, (.mv (.t 7))⟩, ⟨(some 149), (some (144, false)), false, (.len (.t 148))⟩, ⟨(some 150), (some (144, false)), false, (.bin .neq (.t 147) (.t 149))⟩, ⟨(some 151), none, false, (.pick (.t 144) (.c (.bool true)) (.t 150))⟩])
 (.cond (.t 151)
 (.seq (.reg [⟨(some 4), none, false, (.mv (.c (.bool false)))⟩])
 .ret)
 .skip))
 (.seq (.reg [⟨(some 14), none, false, (.mv (.c (.int .i64 0)))⟩])
 (.block 5 (.loop (.seq (.seq (.reg [⟨(some 152), none, false, (.mv (.t 14))⟩, ⟨(some 153), none, false, (.mv (.t 7))⟩, ⟨(some 154), none, false, (.len (.t 153))⟩, ⟨(some 155), none, false, (.bin .lss (.t 152) (.t 154))⟩])
 (.cond (.t 155)
 .skip
 (.exit 5)))
 (.seq (.block 6 (.seq (.drw [(false, ⟨(some 158), none, false, (.fa 1 (.t 6))⟩), (false, ⟨(some 159), none, false, (.ld false 1 (.t 158))⟩), (false, ⟨(some 160), none, false, (.mv (.t 14))⟩), (false, ⟨(some 161), none, false, (.ias 1 (.t 159) (.t 160))⟩), (false, ⟨(some 162), none, false, (.ld false 1 (.t 161))⟩), (false, ⟨(some 163), none, false, (.mv (.t 7))⟩), (false, ⟨(some 164), none, false, (.mv (.t 14))⟩), (false, ⟨(some 165), none, false, (.ias 1 (.t 163) (.t 164))⟩), (false, ⟨(some 166), none, false, (.ld false 1 (.t 165))⟩), (false, ⟨(some 167), none, false, (.bin .neq (.t 162) (.t 166))⟩)] [])
 (.cond (.t 167)
 (.seq (.reg [⟨(some 4), none, false, (.mv (.c (.bool false)))⟩])
 .ret)
 .skip)))
 (.reg [⟨(some 156), none, false, (.mv (.t 14))⟩, ⟨(some 157), none, false, (.bin .add (.t 156) (.c (.int .i64 1)))⟩, ⟨(some 14), none, false, (.mv (.t 157))⟩]))))))))))))
 (.reg [⟨(some 30), none, false, (.mv (.t 10))⟩, ⟨(some 31), none, false, (.bin .add (.t 30) (.c (.int .i64 1)))⟩, ⟨(some 10), none, false, (.mv (.t 31))⟩]))))))
 (.seq (.reg [⟨(some 168), none, false, (.mv (.t 5))⟩, ⟨(some 4), none, false, (.mv (.t 168))⟩])
 .ret))))))))
theorem l10 : ∃ c, f10.body = some c ∧ liteC prog f10.ntmps c = some q10 := ⟨_, rfl, by kernel_rfl⟩
theorem e10 : prog.funcs[10]? = some f10 := by kernel_rfl
theorem r10 : mapO (resOf prog) f10.results.toList = some [(.t 4)] := by kernel_rfl
theorem n10 : f10.ntmps = 169 := rfl
def T10 : TE := .fn q10 [(.t 4)] 169
theorem te10 : TEOK prog 10 T10 := te_fn e10 l10 rfl r10 n10

def q11 : RQ :=
 (.seq (.reg [⟨(some 2), none, false, (.box (.t 0))⟩, ⟨(some 3), none, false, (.box (.t 1))⟩, ⟨(some 4), none, false, (.mv (.c (.bool false)))⟩])
 (.seq (.reg [⟨(some 19), none, false, (.cal 17 [])⟩, ⟨(some 5), none, false, (.mv (.t 19))⟩])
 (.seq (.seq (.reg [⟨(some 20), none, true, (.ld true 8 (.t 2))⟩, ⟨(some 21), none, true, (.ld true 4 (.t 3))⟩, ⟨(some 22), none, false, (.cal 43 [(.t 20), (.t 21)])⟩, ⟨(some 23), none, false, (.not (.t 22))⟩])
 (.cond (.t 23)
 (.seq (.reg [⟨(some 25), none, true, (.ld true 8 (.t 2))⟩, ⟨(some 26), none, true, (.ld true 4 (.t 3))⟩, ⟨(some 27), none, false, (.cal 44 [(.t 25), (.t 26)])⟩, ⟨(some 24), none, false, (.mv (.t 27))⟩, ⟨(some 28), none, false, (.ext (.t 24) 0)⟩, ⟨(some 29), none, false, (.ext (.t 24) 1)⟩, ⟨(some 30), none, false, (.ext (.t 24) 2)⟩, ⟨(some 6), none, false, (.alloc [.nils, .nils, (.int .u64 0), (.int .i64 0)])⟩, ⟨none, none, false, (.st 4 (.t 6) (.t 28))⟩, ⟨(some 7), none, false, (.mv (.t 29))⟩, ⟨(some 8), none, false, (.mv (.t 30))⟩])
 (.seq (.reg [⟨(some 31), none, false, (.mv (.t 5))⟩, ⟨(some 32), none, false, (.mv (.t 31))⟩, ⟨(some 33), (some (32, true)), false, (.mv (.t 8))⟩, ⟨(some 34), (some (32, true)), false, (.bin .neq (.t 33) (.c (.int .i64 0)))⟩, ⟨(some 35), none, false, (.pick (.t 32) (.t 34) (.c (.bool false)))⟩, ⟨(some 36), none, false, (.mv (.t 35))⟩, ⟨(some 37), (some (36, true)), true, (.ld true 8 (.t 2))⟩, ⟨(some 38), (some (36, true)), true, (.ld true 4 (.t 3))⟩, ⟨(some 39), (some (36, true)), false, (.cal 29 [(.t 37), (.t 38)])⟩, ⟨(some 40), (some (36, true)), false, (.mv (.t 8))⟩, ⟨(some 41), (some (36, true)), false, (.bin .eql (.t 39) (.t 40))⟩, ⟨(some 42), none, false, (.pick (.t 36) (.t 41) (.c (.bool false)))⟩, ⟨(some 4), none, false, (.mv (.t 42))⟩])
 .ret))
 .skip))
 (.seq (.reg [⟨(some 43), none, false, (.bslice 1 0 [(.int .i64 0)] [])⟩, ⟨(some 44), none, false, (.fa 1 (.t 3))⟩, ⟨(some 45), none, true, (.ld false 1 (.t 44))⟩, ⟨(some 46), none, false, (.app 1 8 [(.int .i64 0)] (.t 43) (.t 45))⟩, ⟨(some 9), none, false, (.mv (.t 46))⟩])
 (.seq (.seq (.reg [⟨(some 10), none, false, (.mv (.c (.int .i64 0)))⟩])
 (.block 0 (.loop (.seq (.seq (.reg [⟨(some 47), none, false, (.mv (.t 10))⟩, ⟨(some 48), none, false, (.mv (.t 9))⟩, ⟨(some 49), none, false, (.len (.t 48))⟩, ⟨(some 50), none, false, (.bin .lss (.t 47) (.t 49))⟩])
 (.cond (.t 50)
 .skip
 (.exit 0)))
 (.seq (.block 1 (.seq (.reg [⟨(some 54), none, true, (.ld true 8 (.t 2))⟩, ⟨(some 55), none, true, (.ld true 4 (.t 3))⟩, ⟨(some 56), none, false, (.cal 44 [(.t 54), (.t 55)])⟩, ⟨(some 53), none, false, (.mv (.t 56))⟩, ⟨(some 57), none, false, (.ext (.t 53) 0)⟩, ⟨(some 58), none, false, (.ext (.t 53) 1)⟩, ⟨(some 59), none, false, (.ext (.t 53) 2)⟩, ⟨(some 11), none, false, (.alloc [.nils, .nils, (.int .u64 0), (.int .i64 0)])⟩, ⟨none, none, false, (.st 4 (.t 11) (.t 57))⟩, ⟨(some 12), none, false, (.mv (.t 58))⟩, ⟨(some 13), none, false, (.mv (.t 59))⟩])
 (.seq (.seq (.reg [⟨(some 60), none, false, (.mv (.t 13))⟩, ⟨(some 61), none, false, (.bin .neq (.t 60) (.c (.int .i64 0)))⟩, ⟨(some 62), none, false, (.mv (.t 61))⟩, ⟨(some 63), (some (62, false)), false, (.mv (.t 12))⟩, ⟨(some 64), (some (62, false)), false, (.mv (.t 9))⟩, ⟨(some 65), (some (62, false)), false, (.mv (.t 10))⟩, ⟨(some 66), (some (62, false)), false, (.ias 1 (.t 64) (.t 65))⟩, ⟨(some 67), (some (62, false)), false, (.ld false 1 (.t 66))⟩, ⟨(some 68), (some (62, false)), false, (.bin .neq (.t 63) (.t 67))⟩, ⟨(some 69), none, false, (.pick (.t 62) (.c (.bool true)) (.t 68))⟩, ⟨(some 70), none, false, (.mv (.t 69))⟩, ⟨(some 71), (some (70, false)), false, (.mv (.t 10))⟩, ⟨(some 72), (some (70, false)), false, (.bin .gtr (.t 71) (.c (.int .i64 0)))⟩, ⟨(some 73), (some (70, false)), false, (.mv (.t 72))⟩, ⟨(some 74), (some (73, true)), false, (.mv (.t 12))⟩, ⟨(some 75), (some (73, true)), false, (.mv (.t 9))⟩, ⟨(some 76), (some (73, true)), false, (.mv (.t 10))⟩, ⟨(some 77), (some (73, true)), false, (.bin .sub (.t 76) (.c (.int .i64 1)))⟩, ⟨(some 78), (some (73, true)), false, (.ias 1 (.t 75) (.t 77))⟩, ⟨(some 79), (some (73, true)), false, (.ld false 1 (.t 78))⟩, ⟨(some 80), (some (73, true)), false, (.bin .leq (.t 74) (.t 79))⟩, ⟨(some 81), (some (70, false)), false, (.pick (.t 73) (.t 80) (.c (.bool false)))⟩, ⟨(some 82), none, false, (.pick (.t 70) (.c (.bool true)) (.t 81))⟩, ⟨(some 83), none, false, (.mv (.t 82))⟩, ⟨(some 84), (some (83, false)), false, (.fa 1 (.t 11))⟩, ⟨(some 85), (some (83, false)), false, (.ld false 1 (.t 84))⟩, ⟨(some 86), (some (83, false)), false, (.len (.t 85))⟩, ⟨(some 87), (some (83, false)), false, (.mv (.t 9))⟩, ⟨(some 88), (some (83, false)), false, (.len (.t 87))⟩, ⟨(some 89), (some (83, false)), false, (.mv (.t 10))⟩, ⟨(some 90), (some (83, false)), false, (.bin .sub (.t 88) (.t 89))⟩, ⟨(some 91), (some (83, false)), false, (.bin .sub (.t 90) (.c (.int .i64 1)))⟩, ⟨(some 92), (some (83, false)), false, (.bin .neq (.t 86) (.t 91))⟩, ⟨(some 93), none, false, (.pick (.t 83) (.c (.bool true)) (.t 92))⟩])
 (.cond (.t 93)
 (.seq (.reg [⟨(some 4), none, false, (.mv (.c (.bool false)))⟩])
 .ret)
 .skip))
 (.seq (.reg [⟨(some 95), none, true, (.ld true 8 (.t 2))⟩, ⟨(some 96), none, true, (.ld true 4 (.t 11))⟩, ⟨(some 97), none, true, (.mv (.t 12))⟩, ⟨(some 98), none, false, (.cal 45 [(.t 95), (.t 96), (.t 97)])⟩, ⟨(some 94), none, false, (.mv (.t 98))⟩, ⟨(some 99), none, false, (.ext (.t 94) 0)⟩, ⟨(some 100), none, false, (.ext (.t 94) 1)⟩, ⟨(some 14), none, false, (.alloc [(.int .i64 0), (.int .i64 0), (.int .i64 0), (.int .u8 0), (.int .u64 0), (.int .u64 0)])⟩, ⟨none, none, false, (.st 6 (.t 14) (.t 99))⟩, ⟨(some 15), none, false, (.mv (.t 100))⟩])
 (.seq (.seq (.reg [⟨(some 101), none, false, (.mv (.t 15))⟩, ⟨(some 102), none, false, (.bin .neq (.t 101) (.c (.int .i64 0)))⟩, ⟨(some 103), none, false, (.mv (.t 102))⟩, ⟨(some 104), (some (103, false)), false, (.fa 3 (.t 14))⟩, ⟨(some 105), (some (103, false)), false, (.ld false 1 (.t 104))⟩, ⟨(some 106), (some (103, false)), false, (.bin .neq (.t 105) (.c (.int .u8 2)))⟩, ⟨(some 107), none, false, (.pick (.t 103) (.c (.bool true)) (.t 106))⟩])
 (.cond (.t 107)
 (.seq (.reg [⟨(some 4), none, false, (.mv (.c (.bool false)))⟩])
 .ret)
 .skip))
 (.reg [⟨(some 108), none, false, (.ld true 4 (.t 11))⟩, ⟨none, none, false, (.st 4 (.t 3) (.t 108))⟩]))))))
 (.reg [⟨(some 51), none, false, (.mv (.t 10))⟩, ⟨(some 52), none, false, (.bin .add (.t 51) (.c (.int .i64 1)))⟩, ⟨(some 10), none, false, (.mv (.t 52))⟩]))))))
 (.seq (.reg [⟨(some 110), none, true, (.ld true 8 (.t 2))⟩, ⟨(some 111), none, true, (.ld true 4 (.t 3))⟩, ⟨(some 112), none, false, (.cal 44 [(.t 110), (.t 111)])⟩, ⟨(some 109), none, false, (.mv (.t 112))⟩, ⟨(some 113), none, false, (.ext (.t 109) 0)⟩, ⟨(some 114), none, false, (.ext (.t 109) 1)⟩, ⟨(some 115), none, false, (.ext (.t 109) 2)⟩, ⟨(some 16), none, false, (.alloc [.nils, .nils, (.int .u64 0), (.int .i64 0)])⟩, ⟨none, none, false, (.st 4 (.t 16) (.t 113))⟩, ⟨(some 17), none, false, (.mv (.t 114))⟩, ⟨(some 18), none, false, (.mv (.t 115))⟩])
 (.seq (.reg [⟨(some 116), none, false, (.mv (.t 5))⟩, ⟨(some 117), none, false, (.mv (.t 116))⟩, ⟨(some 118), (some (117, true)), false, (.mv (.t 18))⟩, ⟨(some 119), (some (117, true)), false, (.bin .eql (.t 118) (.c (.int .i64 6)))⟩, ⟨(some 120), none, false, (.pick (.t 117) (.t 119) (.c (.bool false)))⟩, ⟨(some 4), none, false, (.mv (.t 120))⟩])
 .ret)))))))
theorem l11 : ∃ c, f11.body = some c ∧ liteC prog f11.ntmps c = some q11 := ⟨_, rfl, by kernel_rfl⟩
theorem e11 : prog.funcs[11]? = some f11 := by kernel_rfl
theorem r11 : mapO (resOf prog) f11.results.toList = some [(.t 4)] := by kernel_rfl
theorem n11 : f11.ntmps = 121 := rfl
def T11 : TE := .fn q11 [(.t 4)] 121
theorem te11 : TEOK prog 11 T11 := te_fn e11 l11 rfl r11 n11

def q12 : RQ :=
 (.seq (.reg [⟨(some 3), none, false, (.box (.t 0))⟩, ⟨(some 4), none, false, (.box (.t 1))⟩, ⟨(some 5), none, false, (.box (.t 2))⟩, ⟨(some 6), none, false, (.mv (.c (.bool false)))⟩])
 (.seq (.reg [⟨(some 16), none, false, (.cal 17 [])⟩, ⟨(some 7), none, false, (.mv (.t 16))⟩])
 (.seq (.seq (.reg [⟨(some 17), none, true, (.ld true 8 (.t 3))⟩, ⟨(some 18), none, true, (.ld true 4 (.t 4))⟩, ⟨(some 19), none, false, (.cal 43 [(.t 17), (.t 18)])⟩, ⟨(some 20), none, false, (.not (.t 19))⟩, ⟨(some 21), none, false, (.mv (.t 20))⟩, ⟨(some 22), (some (21, false)), true, (.ld true 5 (.t 5))⟩, ⟨(some 23), (some (21, false)), false, (.cal 26 [(.t 22)])⟩, ⟨(some 24), (some (21, false)), false, (.not (.t 23))⟩, ⟨(some 25), none, false, (.pick (.t 21) (.c (.bool true)) (.t 24))⟩])
 (.cond (.t 25)
 (.seq (.reg [⟨(some 26), none, false, (.mv (.t 7))⟩, ⟨(some 6), none, false, (.mv (.t 26))⟩])
 .ret)
 .skip))
 (.seq (.reg [⟨(some 27), none, true, (.ld true 8 (.t 3))⟩, ⟨(some 28), none, true, (.ld true 4 (.t 4))⟩, ⟨(some 29), none, true, (.ld true 5 (.t 5))⟩, ⟨(some 30), none, false, (.cal 24 [(.t 27), (.t 28), (.t 29)])⟩, ⟨(some 8), none, false, (.alloc [.nils, .nils, (.int .u64 0), (.int .i64 0), (.int .i64 0), (.int .i64 0), (.int .i64 0), (.int .i64 0), (.int .u8 0), (.int .u64 0), (.int .u64 0), (.int .i64 0), (.int .i64 0), (.int .i64 0), (.int .i64 0), (.int .i64 0), (.int .i64 0), (.int .i64 0)])⟩, ⟨none, none, false, (.st 18 (.t 8) (.t 30))⟩])
 (.seq (.seq (.reg [⟨(some 31), none, false, (.fa 17 (.t 8))⟩, ⟨(some 32), none, false, (.ld false 1 (.t 31))⟩, ⟨(some 33), none, false, (.bin .neq (.t 32) (.c (.int .i64 0)))⟩])
 (.cond (.t 33)
 (.seq (.reg [⟨(some 34), none, false, (.mv (.t 7))⟩, ⟨(some 6), none, false, (.mv (.t 34))⟩])
 .ret)
 .skip))
 (.seq (.reg [⟨(some 35), none, false, (.fa 3 (.t 5))⟩, ⟨(some 36), none, false, (.ld false 1 (.t 35))⟩, ⟨(some 9), none, false, (.mv (.t 36))⟩])
 (.seq (.seq (.reg [⟨(some 37), none, false, (.fa 0 (.t 5))⟩, ⟨(some 38), none, false, (.ld false 1 (.t 37))⟩, ⟨(some 39), none, false, (.bin .rem (.t 38) (.c (.int .u8 7)))⟩, ⟨(some 40), none, false, (.bin .eql (.t 39) (.c (.int .u8 2)))⟩, ⟨(some 41), none, false, (.mv (.t 40))⟩, ⟨(some 42), (some (41, false)), false, (.fa 0 (.t 5))⟩, ⟨(some 43), (some (41, false)), false, (.ld false 1 (.t 42))⟩, ⟨(some 44), (some (41, false)), false, (.bin .rem (.t 43) (.c (.int .u8 7)))⟩, ⟨(some 45), (some (41, false)), false, (.bin .eql (.t 44) (.c (.int .u8 0)))⟩, ⟨(some 46), none, false, (.pick (.t 41) (.c (.bool true)) (.t 45))⟩])
 (.cond (.t 46)
 (.reg [⟨(some 47), none, false, (.fa 4 (.t 8))⟩, ⟨(some 48), none, false, (.ld false 1 (.t 47))⟩, ⟨(some 9), none, false, (.mv (.t 48))⟩])
 .skip))
 (.seq (.seq (.reg [⟨(some 10), none, false, (.mv (.c (.int .i64 1)))⟩])
 (.block 0 (.loop (.seq (.seq (.reg [⟨(some 49), none, false, (.mv (.t 10))⟩, ⟨(some 50), none, false, (.fa 0 (.t 4))⟩, ⟨(some 51), none, false, (.ld false 1 (.t 50))⟩, ⟨(some 52), none, false, (.len (.t 51))⟩, ⟨(some 53), none, false, (.bin .leq (.t 49) (.t 52))⟩])
 (.cond (.t 53)
 .skip
 (.exit 0)))
 (.seq (.block 1 (.seq (.reg [⟨(some 57), none, true, (.ld true 8 (.t 3))⟩, ⟨(some 58), none, true, (.ld true 4 (.t 4))⟩, ⟨(some 59), none, true, (.mv (.t 10))⟩, ⟨(some 60), none, false, (.cal 45 [(.t 57), (.t 58), (.t 59)])⟩, ⟨(some 56), none, false, (.mv (.t 60))⟩, ⟨(some 61), none, false, (.ext (.t 56) 0)⟩, ⟨(some 62), none, false, (.ext (.t 56) 1)⟩, ⟨(some 11), none, false, (.alloc [(.int .i64 0), (.int .i64 0), (.int .i64 0), (.int .u8 0), (.int .u64 0), (.int .u64 0)])⟩, ⟨none, none, false, (.st 6 (.t 11) (.t 61))⟩, ⟨(some 12), none, false, (.mv (.t 62))⟩])
 (.seq (.reg [⟨(some 64), none, true, (.ld true 8 (.t 3))⟩, ⟨(some 65), none, false, (.fa 0 (.t 8))⟩, ⟨(some 66), none, true, (.ld true 4 (.t 65))⟩, ⟨(some 67), none, true, (.mv (.t 10))⟩, ⟨(some 68), none, false, (.cal 45 [(.t 64), (.t 66), (.t 67)])⟩, ⟨(some 63), none, false, (.mv (.t 68))⟩, ⟨(some 69), none, false, (.ext (.t 63) 0)⟩, ⟨(some 70), none, false, (.ext (.t 63) 1)⟩, ⟨(some 13), none, false, (.alloc [(.int .i64 0), (.int .i64 0), (.int .i64 0), (.int .u8 0), (.int .u64 0), (.int .u64 0)])⟩, ⟨none, none, false, (.st 6 (.t 13) (.t 69))⟩, ⟨(some 14), none, false, (.mv (.t 70))⟩])
 (.seq (.reg [⟨(some 71), none, false, (.mv (.t 12))⟩, ⟨(some 72), none, false, (.bin .neq (.t 71) (.c (.int .i64 0)))⟩, ⟨(some 73), none, false, (.mv (.t 72))⟩, ⟨(some 74), (some (73, false)), false, (.mv (.t 14))⟩, ⟨(some 75), (some (73, false)), false, (.bin .neq (.t 74) (.c (.int .i64 0)))⟩, ⟨(some 76), none, false, (.pick (.t 73) (.c (.bool true)) (.t 75))⟩, ⟨(some 77), none, false, (.mv (.t 76))⟩, ⟨(some 78), (some (77, false)), false, (.ld true 6 (.t 11))⟩, ⟨(some 79), (some (77, false)), false, (.ld true 6 (.t 13))⟩, ⟨(some 80), (some (77, false)), false, (.eqv false [(0, (.i .i64)), (1, (.i .i64)), (2, (.i .i64)), (3, (.i .u8)), (4, (.i .u64)), (5, (.i .u64))] (.t 78) (.t 79))⟩, ⟨(some 81), (some (77, false)), false, (.mv (.t 10))⟩, ⟨(some 82), (some (77, false)), false, (.mv (.t 9))⟩, ⟨(some 83), (some (77, false)), false, (.bin .neq (.t 81) (.t 82))⟩, ⟨(some 84), (some (77, false)), false, (.eqb true (.t 80) (.t 83))⟩, ⟨(some 85), none, false, (.pick (.t 77) (.c (.bool true)) (.t 84))⟩])
 (.cond (.t 85)
 (.seq (.reg [⟨(some 6), none, false, (.mv (.c (.bool false)))⟩])
 .ret)
 .skip)))))
 (.reg [⟨(some 54), none, false, (.mv (.t 10))⟩, ⟨(some 55), none, false, (.bin .add (.t 54) (.c (.int .i64 1)))⟩, ⟨(some 10), none, false, (.mv (.t 55))⟩]))))))
 (.seq (.reg [⟨(some 86), none, false, (.fa 0 (.t 4))⟩, ⟨(some 87), none, false, (.ld false 1 (.t 86))⟩, ⟨(some 88), none, false, (.len (.t 87))⟩, ⟨(some 15), none, false, (.mv (.t 88))⟩])
 (.seq (.seq (.reg [⟨(some 89), none, false, (.fa 0 (.t 5))⟩, ⟨(some 90), none, false, (.ld false 1 (.t 89))⟩, ⟨(some 91), none, false, (.bin .rem (.t 90) (.c (.int .u8 7)))⟩, ⟨(some 92), none, false, (.bin .eql (.t 91) (.c (.int .u8 0)))⟩])
 (.cond (.t 92)
 (.reg [⟨(some 93), none, false, (.mv (.t 15))⟩, ⟨(some 94), none, false, (.bin .add (.t 93) (.c (.int .i64 1)))⟩, ⟨(some 15), none, false, (.mv (.t 94))⟩])
 .skip))
 (.seq (.reg [⟨(some 95), none, false, (.mv (.t 7))⟩, ⟨(some 96), none, false, (.mv (.t 95))⟩, ⟨(some 97), (some (96, true)), false, (.fa 0 (.t 8))⟩, ⟨(some 98), (some (96, true)), false, (.fa 0 (.t 97))⟩, ⟨(some 99), (some (96, true)), false, (.ld false 1 (.t 98))⟩, ⟨(some 100), (some (96, true)), false, (.len (.t 99))⟩, ⟨(some 101), (some (96, true)), false, (.mv (.t 15))⟩, ⟨(some 102), (some (96, true)), false, (.bin .eql (.t 100) (.t 101))⟩, ⟨(some 103), none, false, (.pick (.t 96) (.t 102) (.c (.bool false)))⟩, ⟨(some 104), none, false, (.mv (.t 103))⟩, ⟨(some 105), (some (104, true)), false, (.fa 0 (.t 5))⟩, ⟨(some 106), (some (104, true)), false, (.ld false 1 (.t 105))⟩, ⟨(some 107), (some (104, true)), false, (.bin .rem (.t 106) (.c (.int .u8 7)))⟩, ⟨(some 108), (some (104, true)), false, (.bin .eql (.t 107) (.c (.int .u8 0)))⟩, ⟨(some 109), (some (104, true)), false, (.mv (.t 108))⟩, ⟨(some 110), (some (109, false)), false, (.fa 0 (.t 8))⟩, ⟨(some 111), (some (109, false)), false, (.fa 2 (.t 110))⟩, ⟨(some 112), (some (109, false)), false, (.ld true 2 (.t 111))⟩, ⟨(some 113), (some (109, false)), false, (.fa 2 (.t 4))⟩, ⟨(some 114), (some (109, false)), false, (.ld true 2 (.t 113))⟩, ⟨(some 115), (some (109, false)), false, (.eqv false [(0, (.i .u64)), (1, (.i .i64))] (.t 112) (.t 114))⟩, ⟨(some 116), (some (104, true)), false, (.pick (.t 109) (.c (.bool true)) (.t 115))⟩, ⟨(some 117), none, false, (.pick (.t 104) (.t 116) (.c (.bool false)))⟩, ⟨(some 6), none, false, (.mv (.t 117))⟩])
 .ret)))))))))))
theorem l12 : ∃ c, f12.body = some c ∧ liteC prog f12.ntmps c = some q12 := ⟨_, rfl, by kernel_rfl⟩
theorem e12 : prog.funcs[12]? = some f12 := by kernel_rfl
theorem r12 : mapO (resOf prog) f12.results.toList = some [(.t 6)] := by kernel_rfl
theorem n12 : f12.ntmps = 118 := rfl
def T12 : TE := .fn q12 [(.t 6)] 118
theorem te12 : TEOK prog 12 T12 := te_fn e12 l12 rfl r12 n12

def q13 : RQ :=
 (.seq (.reg [⟨(some 2), none, false, (.box (.t 0))⟩, ⟨(some 4), none, false, (.mv (.c (.bool false)))⟩])
 (.seq (.reg [⟨(some 13), none, false, (.cal 17 [])⟩, ⟨(some 5), none, false, (.mv (.t 13))⟩])
 (.seq (.seq (.reg [⟨(some 14), none, false, (.mv (.t 1))⟩, ⟨(some 15), none, false, (.len (.t 14))⟩, ⟨(some 16), none, false, (.bin .gtr (.t 15) (.c (.int .i64 300)))⟩])
 (.cond (.t 16)
 (.seq (.reg [⟨(some 17), none, false, (.mv (.t 5))⟩, ⟨(some 4), none, false, (.mv (.t 17))⟩])
 .ret)
 .skip))
 (.seq (.reg [⟨(some 18), none, false, (.build [.nils, .nils, (.int .u64 0), (.int .i64 0)] [])⟩, ⟨(some 6), none, false, (.alloc [.nils, .nils, (.int .u64 0), (.int .i64 0)])⟩, ⟨none, none, false, (.st 4 (.t 6) (.t 18))⟩])
 (.seq (.reg [⟨(some 7), none, false, (.mv (.c .nils))⟩])
 (.seq (.seq (.reg [⟨(some 8), none, false, (.mv (.c (.int .i64 0)))⟩])
 (.block 0 (.loop (.seq (.seq (.reg [⟨(some 19), none, false, (.mv (.t 8))⟩, ⟨(some 20), none, false, (.mv (.t 1))⟩, ⟨(some 21), none, false, (.len (.t 20))⟩, ⟨(some 22), none, false, (.bin .lss (.t 19) (.t 21))⟩])
 (.cond (.t 22)
 .skip
 (.exit 0)))
 (.seq (.block 1 (.seq (.drw [(false, ⟨(some 25), none, true, (.ld true 8 (.t 2))⟩), (false, ⟨(some 26), none, true, (.ld true 4 (.t 6))⟩), (false, ⟨(some 27), none, false, (.mv (.t 1))⟩), (false, ⟨(some 28), none, false, (.mv (.t 8))⟩), (false, ⟨(some 29), none, false, (.ias 5 (.t 27) (.t 28))⟩), (false, ⟨(some 30), none, true, (.ld true 5 (.t 29))⟩), (false, ⟨(some 31), none, false, (.cal 24 [(.t 25), (.t 26), (.t 30)])⟩), (false, ⟨(some 9), none, false, (.alloc [.nils, .nils, (.int .u64 0), (.int .i64 0), (.int .i64 0), (.int .i64 0), (.int .i64 0), (.int .i64 0), (.int .u8 0), (.int .u64 0), (.int .u64 0), (.int .i64 0), (.int .i64 0), (.int .i64 0), (.int .i64 0), (.int .i64 0), (.int .i64 0), (.int .i64 0)])⟩)] [⟨none, none, false, (.st 18 (.t 9) (.t 31))⟩])
 (.seq (.reg [⟨(some 32), none, false, (.fa 17 (.t 9))⟩, ⟨(some 33), none, false, (.ld false 1 (.t 32))⟩, ⟨(some 34), none, false, (.bin .eql (.t 33) (.c (.int .i64 0)))⟩, ⟨(some 35), none, false, (.mv (.t 34))⟩, ⟨(some 36), (some (35, true)), false, (.mv (.t 1))⟩, ⟨(some 37), (some (35, true)), false, (.mv (.t 8))⟩, ⟨(some 38), (some (35, true)), false, (.ias 5 (.t 36) (.t 37))⟩, ⟨(some 39), (some (35, true)), true, (.ld true 5 (.t 38))⟩, ⟨(some 40), (some (35, true)), false, (.cal 26 [(.t 39)])⟩, ⟨(some 41), none, false, (.pick (.t 35) (.t 40) (.c (.bool false)))⟩])
 (.cond (.t 41)
 (.seq (.reg [⟨(some 42), none, false, (.fa 0 (.t 9))⟩, ⟨(some 43), none, false, (.ld true 4 (.t 42))⟩, ⟨none, none, false, (.st 4 (.t 6) (.t 43))⟩])
 (.reg [⟨(some 44), none, false, (.mv (.t 7))⟩, ⟨(some 45), none, false, (.mv (.t 1))⟩, ⟨(some 46), none, false, (.mv (.t 8))⟩, ⟨(some 47), none, false, (.ias 5 (.t 45) (.t 46))⟩, ⟨(some 48), none, false, (.ld true 5 (.t 47))⟩, ⟨(some 49), none, true, (.bslice 5 1 [(.int .u8 0), (.int .i64 0), (.int .i64 0), (.int .i64 0), (.int .u64 0)] [(0, (.t 48))])⟩, ⟨(some 50), none, false, (.app 5 40 [(.int .u8 0), (.int .i64 0), (.int .i64 0), (.int .i64 0), (.int .u64 0)] (.t 44) (.t 49))⟩, ⟨(some 7), none, false, (.mv (.t 50))⟩]))
 .skip))))
 (.reg [⟨(some 23), none, false, (.mv (.t 8))⟩, ⟨(some 24), none, false, (.bin .add (.t 23) (.c (.int .i64 1)))⟩, ⟨(some 8), none, false, (.mv (.t 24))⟩]))))))
 (.seq (.reg [⟨(some 51), none, false, (.build [.nils, .nils, (.int .u64 0), (.int .i64 0)] [])⟩, ⟨(some 10), none, false, (.alloc [.nils, .nils, (.int .u64 0), (.int .i64 0)])⟩, ⟨none, none, false, (.st 4 (.t 10) (.t 51))⟩])
 (.seq (.seq (.reg [⟨(some 11), none, false, (.mv (.c (.int .i64 0)))⟩])
 (.block 2 (.loop (.seq (.seq (.reg [⟨(some 52), none, false, (.mv (.t 11))⟩, ⟨(some 53), none, false, (.mv (.t 7))⟩, ⟨(some 54), none, false, (.len (.t 53))⟩, ⟨(some 55), none, false, (.bin .lss (.t 52) (.t 54))⟩])
 (.cond (.t 55)
 .skip
 (.exit 2)))
 (.seq (.block 3 (.seq (.drw [(false, ⟨(some 58), none, true, (.ld true 8 (.t 2))⟩), (false, ⟨(some 59), none, true, (.ld true 4 (.t 10))⟩), (false, ⟨(some 60), none, false, (.mv (.t 7))⟩), (false, ⟨(some 61), none, false, (.mv (.t 11))⟩), (false, ⟨(some 62), none, false, (.ias 5 (.t 60) (.t 61))⟩), (false, ⟨(some 63), none, true, (.ld true 5 (.t 62))⟩), (false, ⟨(some 64), none, false, (.cal 24 [(.t 58), (.t 59), (.t 63)])⟩), (false, ⟨(some 12), none, false, (.alloc [.nils, .nils, (.int .u64 0), (.int .i64 0), (.int .i64 0), (.int .i64 0), (.int .i64 0), (.int .i64 0), (.int .u8 0), (.int .u64 0), (.int .u64 0), (.int .i64 0), (.int .i64 0), (.int .i64 0), (.int .i64 0), (.int .i64 0), (.int .i64 0), (.int .i64 0)])⟩)] [⟨none, none, false, (.st 18 (.t 12) (.t 64))⟩])
 (.seq (.seq (.reg [⟨(some 65), none, false, (.fa 17 (.t 12))⟩, ⟨(some 66), none, false, (.ld false 1 (.t 65))⟩, ⟨(some 67), none, false, (.bin .neq (.t 66) (.c (.int .i64 0)))⟩])
 (.cond (.t 67)
 (.seq (.reg [⟨(some 4), none, false, (.mv (.c (.bool false)))⟩])
 .ret)
 .skip))
 (.reg [⟨(some 68), none, false, (.fa 0 (.t 12))⟩, ⟨(some 69), none, false, (.ld true 4 (.t 68))⟩, ⟨none, none, false, (.st 4 (.t 10) (.t 69))⟩]))))
 (.reg [⟨(some 56), none, false, (.mv (.t 11))⟩, ⟨(some 57), none, false, (.bin .add (.t 56) (.c (.int .i64 1)))⟩, ⟨(some 11), none, false, (.mv (.t 57))⟩]))))))
 (.seq (.reg [⟨(some 70), none, false, (.mv (.t 5))⟩, ⟨(some 71), none, false, (.mv (.t 70))⟩, ⟨(some 72), (some (71, true)), true, (.ld true 4 (.t 6))⟩, ⟨(some 73), (some (71, true)), true, (.ld true 4 (.t 10))⟩, ⟨(some 74), (some (71, true)), false, (.cal 41 [(.t 72), (.t 73)])⟩, ⟨(some 75), none, false, (.pick (.t 71) (.t 74) (.c (.bool false)))⟩, ⟨(some 4), none, false, (.mv (.t 75))⟩])
 .ret)))))))))
theorem l13 : ∃ c, f13.body = some c ∧ liteC prog f13.ntmps c = some q13 := ⟨_, rfl, by kernel_rfl⟩
theorem e13 : prog.funcs[13]? = some f13 := by kernel_rfl
theorem r13 : mapO (resOf prog) f13.results.toList = some [(.t 4)] := by kernel_rfl
theorem n13 : f13.ntmps = 76 := rfl
def T13 : TE := .fn q13 [(.t 4)] 76
theorem te13 : TEOK prog 13 T13 := te_fn e13 l13 rfl r13 n13

def q14 : RQ :=
 (.seq (.reg [⟨(some 6), none, false, (.box (.t 0))⟩, ⟨(some 7), none, false, (.box (.t 1))⟩, ⟨(some 12), none, false, (.mv (.c (.bool false)))⟩])
 (.seq (.reg [⟨(some 30), none, false, (.cal 17 [])⟩, ⟨(some 13), none, false, (.mv (.t 30))⟩])
 (.seq (.seq (.reg [⟨(some 31), none, true, (.ld true 8 (.t 6))⟩, ⟨(some 32), none, true, (.ld true 4 (.t 7))⟩, ⟨(some 33), none, false, (.cal 43 [(.t 31), (.t 32)])⟩, ⟨(some 34), none, false, (.not (.t 33))⟩])
 (.cond (.t 34)
 (.seq (.reg [⟨(some 35), none, false, (.mv (.t 13))⟩, ⟨(some 12), none, false, (.mv (.t 35))⟩])
 .ret)
 .skip))
 (.seq (.reg [⟨(some 37), none, true, (.ld true 8 (.t 6))⟩, ⟨(some 38), none, true, (.ld true 4 (.t 7))⟩, ⟨(some 39), none, true, (.mv (.t 2))⟩, ⟨(some 40), none, true, (.mv (.t 3))⟩, ⟨(some 41), none, true, (.mv (.t 4))⟩, ⟨(some 42), none, false, (.cal 28 [(.t 37), (.t 38), (.t 39), (.t 40), (.t 41)])⟩, ⟨(some 36), none, false, (.mv (.t 42))⟩, ⟨(some 43), none, false, (.ext (.t 36) 0)⟩, ⟨(some 44), none, false, (.ext (.t 36) 1)⟩, ⟨(some 45), none, false, (.ext (.t 36) 2)⟩, ⟨(some 14), none, false, (.alloc [.nils, .nils, (.int .u64 0), (.int .i64 0)])⟩, ⟨none, none, false, (.st 4 (.t 14) (.t 43))⟩, ⟨(some 15), none, false, (.mv (.t 44))⟩, ⟨(some 16), none, false, (.mv (.t 45))⟩])
 (.seq (.seq (.reg [⟨(some 46), none, false, (.mv (.t 16))⟩, ⟨(some 47), none, false, (.bin .eql (.t 46) (.c (.int .i64 0)))⟩])
 (.cond (.t 47)
 (.seq (.reg [⟨(some 49), none, true, (.ld true 8 (.t 6))⟩, ⟨(some 50), none, true, (.ld true 4 (.t 14))⟩, ⟨(some 51), none, true, (.mv (.t 15))⟩, ⟨(some 52), none, false, (.cal 45 [(.t 49), (.t 50), (.t 51)])⟩, ⟨(some 48), none, false, (.mv (.t 52))⟩, ⟨(some 53), none, false, (.ext (.t 48) 0)⟩, ⟨(some 54), none, false, (.ext (.t 48) 1)⟩, ⟨(some 17), none, false, (.alloc [(.int .i64 0), (.int .i64 0), (.int .i64 0), (.int .u8 0), (.int .u64 0), (.int .u64 0)])⟩, ⟨none, none, false, (.st 6 (.t 17) (.t 53))⟩, ⟨(some 18), none, false, (.mv (.t 54))⟩])
 (.seq (.reg [⟨(some 55), none, false, (.mv (.t 13))⟩, ⟨(some 56), none, false, (.mv (.t 55))⟩, ⟨(some 57), (some (56, true)), false, (.mv (.t 18))⟩, ⟨(some 58), (some (56, true)), false, (.bin .eql (.t 57) (.c (.int .i64 0)))⟩, ⟨(some 59), none, false, (.pick (.t 56) (.t 58) (.c (.bool false)))⟩, ⟨(some 60), none, false, (.mv (.t 59))⟩, ⟨(some 61), (some (60, true)), false, (.fa 3 (.t 17))⟩, ⟨(some 62), (some (60, true)), false, (.ld false 1 (.t 61))⟩, ⟨(some 63), (some (60, true)), false, (.bin .eql (.t 62) (.c (.int .u8 1)))⟩, ⟨(some 64), none, false, (.pick (.t 60) (.t 63) (.c (.bool false)))⟩, ⟨(some 65), none, false, (.mv (.t 64))⟩, ⟨(some 66), (some (65, true)), false, (.fa 1 (.t 17))⟩, ⟨(some 67), (some (65, true)), false, (.ld false 1 (.t 66))⟩, ⟨(some 68), (some (65, true)), false, (.mv (.t 2))⟩, ⟨(some 69), (some (65, true)), false, (.bin .eql (.t 67) (.t 68))⟩, ⟨(some 70), none, false, (.pick (.t 65) (.t 69) (.c (.bool false)))⟩, ⟨(some 71), none, false, (.mv (.t 70))⟩, ⟨(some 72), (some (71, true)), false, (.fa 2 (.t 17))⟩, ⟨(some 73), (some (71, true)), false, (.ld false 1 (.t 72))⟩, ⟨(some 74), (some (71, true)), false, (.mv (.t 3))⟩, ⟨(some 75), (some (71, true)), false, (.bin .eql (.t 73) (.t 74))⟩, ⟨(some 76), none, false, (.pick (.t 71) (.t 75) (.c (.bool false)))⟩, ⟨(some 77), none, false, (.mv (.t 76))⟩, ⟨(some 78), (some (77, true)), false, (.fa 4 (.t 17))⟩, ⟨(some 79), (some (77, true)), false, (.ld false 1 (.t 78))⟩, ⟨(some 80), (some (77, true)), false, (.mv (.t 4))⟩, ⟨(some 81), (some (77, true)), false, (.bin .eql (.t 79) (.t 80))⟩, ⟨(some 82), none, false, (.pick (.t 77) (.t 81) (.c (.bool false)))⟩, ⟨(some 83), none, false, (.mv (.t 82))⟩, ⟨(some 84), (some (83, true)), false, (.mv (.t 15))⟩, ⟨(some 85), (some (83, true)), false, (.fa 0 (.t 7))⟩, ⟨(some 86), (some (83, true)), false, (.ld false 1 (.t 85))⟩, ⟨(some 87), (some (83, true)), false, (.len (.t 86))⟩, ⟨(some 88), (some (83, true)), false, (.bin .add (.t 87) (.c (.int .i64 1)))⟩, ⟨(some 89), (some (83, true)), false, (.bin .eql (.t 84) (.t 88))⟩, ⟨(some 90), none, false, (.pick (.t 83) (.t 89) (.c (.bool false)))⟩, ⟨(some 91), none, false, (.mv (.t 90))⟩, ⟨(some 92), (some (91, true)), false, (.fa 1 (.t 14))⟩, ⟨(some 93), (some (91, true)), false, (.ld false 1 (.t 92))⟩, ⟨(some 94), (some (91, true)), false, (.len (.t 93))⟩, ⟨(some 95), (some (91, true)), false, (.fa 1 (.t 7))⟩, ⟨(some 96), (some (91, true)), false, (.ld false 1 (.t 95))⟩, ⟨(some 97), (some (91, true)), false, (.len (.t 96))⟩, ⟨(some 98), (some (91, true)), false, (.bin .add (.t 97) (.c (.int .i64 1)))⟩, ⟨(some 99), (some (91, true)), false, (.bin .eql (.t 94) (.t 98))⟩, ⟨(some 100), none, false, (.pick (.t 91) (.t 99) (.c (.bool false)))⟩, ⟨(some 101), none, false, (.mv (.t 100))⟩, ⟨(some 102), (some (101, true)), false, (.fa 1 (.t 14))⟩, ⟨(some 103), (some (101, true)), false, (.ld false 1 (.t 102))⟩, ⟨(some 104), (some (101, true)), false, (.fa 1 (.t 14))⟩, ⟨(some 105), (some (101, true)), false, (.ld false 1 (.t 104))⟩, ⟨(some 106), (some (101, true)), false, (.len (.t 105))⟩, ⟨(some 107), (some (101, true)), false, (.bin .sub (.t 106) (.c (.int .i64 1)))⟩, ⟨(some 108), (some (101, true)), false, (.ias 1 (.t 103) (.t 107))⟩, ⟨(some 109), (some (101, true)), false, (.ld false 1 (.t 108))⟩, ⟨(some 110), (some (101, true)), false, (.mv (.t 15))⟩, ⟨(some 111), (some (101, true)), false, (.bin .eql (.t 109) (.t 110))⟩, ⟨(some 112), none, false, (.pick (.t 101) (.t 111) (.c (.bool false)))⟩, ⟨(some 12), none, false, (.mv (.t 112))⟩])
 .ret))
 .skip))
 (.seq (.seq (.reg [⟨(some 113), none, false, (.mv (.t 16))⟩, ⟨(some 114), none, false, (.bin .neq (.t 113) (.c (.int .i64 9)))⟩])
 (.cond (.t 114)
 (.seq (.reg [⟨(some 115), none, false, (.mv (.t 13))⟩, ⟨(some 116), none, false, (.mv (.t 115))⟩, ⟨(some 117), (some (116, true)), false, (.mv (.t 16))⟩, ⟨(some 118), (some (116, true)), false, (.bin .eql (.t 117) (.c (.int .i64 2)))⟩, ⟨(some 119), (some (116, true)), false, (.mv (.t 118))⟩, ⟨(some 120), (some (119, false)), false, (.mv (.t 16))⟩, ⟨(some 121), (some (119, false)), false, (.bin .eql (.t 120) (.c (.int .i64 4)))⟩, ⟨(some 122), (some (116, true)), false, (.pick (.t 119) (.c (.bool true)) (.t 121))⟩, ⟨(some 123), (some (116, true)), false, (.mv (.t 122))⟩, ⟨(some 124), (some (123, false)), false, (.mv (.t 16))⟩, ⟨(some 125), (some (123, false)), false, (.bin .eql (.t 124) (.c (.int .i64 160)))⟩, ⟨(some 126), (some (116, true)), false, (.pick (.t 123) (.c (.bool true)) (.t 125))⟩, ⟨(some 127), none, false, (.pick (.t 116) (.t 126) (.c (.bool false)))⟩, ⟨(some 12), none, false, (.mv (.t 127))⟩])
 .ret)
 .skip))
 (.seq (.seq (.reg [⟨(some 128), none, false, (.fa 1 (.t 7))⟩, ⟨(some 129), none, false, (.ld false 1 (.t 128))⟩, ⟨(some 130), none, false, (.len (.t 129))⟩, ⟨(some 131), none, false, (.fa 5 (.t 6))⟩, ⟨(some 132), none, false, (.ld false 1 (.t 131))⟩, ⟨(some 133), none, false, (.bin .neq (.t 130) (.t 132))⟩])
 (.cond (.t 133)
 (.seq (.reg [⟨(some 12), none, false, (.mv (.c (.bool false)))⟩])
 .ret)
 .skip))
 (.seq (.drw [(false, ⟨(some 135), none, true, (.ld true 8 (.t 6))⟩), (false, ⟨(some 136), none, true, (.ld true 4 (.t 7))⟩), (false, ⟨(some 137), none, false, (.fa 1 (.t 7))⟩), (false, ⟨(some 138), none, false, (.ld false 1 (.t 137))⟩), (false, ⟨(some 139), none, false, (.mv (.t 5))⟩), (false, ⟨(some 140), none, false, (.cv .i64 (.t 139))⟩), (false, ⟨(some 141), none, false, (.fa 1 (.t 7))⟩), (false, ⟨(some 142), none, false, (.ld false 1 (.t 141))⟩), (false, ⟨(some 143), none, false, (.len (.t 142))⟩), (false, ⟨(some 144), none, false, (.bin .rem (.t 140) (.t 143))⟩), (false, ⟨(some 145), none, false, (.ias 1 (.t 138) (.t 144))⟩), (false, ⟨(some 146), none, true, (.ld false 1 (.t 145))⟩), (false, ⟨(some 147), none, false, (.cal 46 [(.t 135), (.t 136), (.t 146)])⟩), (false, ⟨(some 134), none, false, (.mv (.t 147))⟩), (false, ⟨(some 148), none, false, (.ext (.t 134) 0)⟩), (true, ⟨(some 149), none, false, (.ext (.t 134) 1)⟩), (false, ⟨(some 19), none, false, (.alloc [.nils, .nils, (.int .u64 0), (.int .i64 0)])⟩), (false, ⟨none, none, false, (.st 4 (.t 19) (.t 148))⟩), (false, ⟨(some 20), none, false, (.mv (.t 149))⟩)] [])
 (.seq (.reg [⟨(some 151), none, true, (.ld true 8 (.t 6))⟩, ⟨(some 152), none, true, (.ld true 4 (.t 7))⟩, ⟨(some 153), none, false, (.cal 44 [(.t 151), (.t 152)])⟩, ⟨(some 150), none, false, (.mv (.t 153))⟩, ⟨(some 154), none, false, (.ext (.t 150) 0)⟩, ⟨(some 155), none, false, (.ext (.t 150) 1)⟩, ⟨(some 156), none, false, (.ext (.t 150) 2)⟩, ⟨(some 21), none, false, (.alloc [.nils, .nils, (.int .u64 0), (.int .i64 0)])⟩, ⟨none, none, false, (.st 4 (.t 21) (.t 154))⟩, ⟨(some 22), none, false, (.mv (.t 155))⟩, ⟨(some 23), none, false, (.mv (.t 156))⟩])
 (.seq (.reg [⟨(some 158), none, true, (.ld true 8 (.t 6))⟩, ⟨(some 159), none, true, (.ld true 4 (.t 19))⟩, ⟨(some 160), none, true, (.mv (.t 2))⟩, ⟨(some 161), none, true, (.mv (.t 3))⟩, ⟨(some 162), none, true, (.mv (.t 4))⟩, ⟨(some 163), none, false, (.cal 28 [(.t 158), (.t 159), (.t 160), (.t 161), (.t 162)])⟩, ⟨(some 157), none, false, (.mv (.t 163))⟩, ⟨(some 164), none, false, (.ext (.t 157) 0)⟩, ⟨(some 165), none, false, (.ext (.t 157) 1)⟩, ⟨(some 166), none, false, (.ext (.t 157) 2)⟩, ⟨(some 24), none, false, (.alloc [.nils, .nils, (.int .u64 0), (.int .i64 0)])⟩, ⟨none, none, false, (.st 4 (.t 24) (.t 164))⟩, ⟨(some 25), none, false, (.mv (.t 165))⟩, ⟨(some 26), none, false, (.mv (.t 166))⟩])
 (.seq (.reg [⟨(some 168), none, true, (.ld true 8 (.t 6))⟩, ⟨(some 169), none, true, (.ld true 4 (.t 21))⟩, ⟨(some 170), none, true, (.mv (.t 2))⟩, ⟨(some 171), none, true, (.mv (.t 3))⟩, ⟨(some 172), none, true, (.mv (.t 4))⟩, ⟨(some 173), none, false, (.cal 28 [(.t 168), (.t 169), (.t 170), (.t 171), (.t 172)])⟩, ⟨(some 167), none, false, (.mv (.t 173))⟩, ⟨(some 174), none, false, (.ext (.t 167) 0)⟩, ⟨(some 175), none, false, (.ext (.t 167) 1)⟩, ⟨(some 176), none, false, (.ext (.t 167) 2)⟩, ⟨(some 27), none, false, (.alloc [.nils, .nils, (.int .u64 0), (.int .i64 0)])⟩, ⟨none, none, false, (.st 4 (.t 27) (.t 174))⟩, ⟨(some 28), none, false, (.mv (.t 175))⟩, ⟨(some 29), none, false, (.mv (.t 176))⟩])
 (.seq (.reg [⟨(some 177), none, false, (.mv (.t 13))⟩, ⟨(some 178), none, false, (.mv (.t 177))⟩, ⟨(some 179), (some (178, true)), false, (.mv (.t 20))⟩, ⟨(some 180), (some (178, true)), false, (.bin .eql (.t 179) (.c (.int .i64 0)))⟩, ⟨(some 181), none, false, (.pick (.t 178) (.t 180) (.c (.bool false)))⟩, ⟨(some 182), none, false, (.mv (.t 181))⟩, ⟨(some 183), (some (182, true)), false, (.mv (.t 23))⟩, ⟨(some 184), (some (182, true)), false, (.bin .eql (.t 183) (.c (.int .i64 0)))⟩, ⟨(some 185), none, false, (.pick (.t 182) (.t 184) (.c (.bool false)))⟩, ⟨(some 186), none, false, (.mv (.t 185))⟩, ⟨(some 187), (some (186, true)), false, (.mv (.t 26))⟩, ⟨(some 188), (some (186, true)), false, (.bin .eql (.t 187) (.c (.int .i64 0)))⟩, ⟨(some 189), (some (186, true)), false, (.mv (.t 188))⟩, ⟨(some 190), (some (189, false)), false, (.mv (.t 26))⟩, ⟨(some 191), (some (189, false)), false, (.bin .eql (.t 190) (.c (.int .i64 160)))⟩, ⟨(some 192), (some (186, true)), false, (.pick (.t 189) (.c (.bool true)) (.t 191))⟩, ⟨(some 193), none, false, (.pick (.t 186) (.t 192) (.c (.bool false)))⟩, ⟨(some 194), none, false, (.mv (.t 193))⟩, ⟨(some 195), (some (194, true)), false, (.mv (.t 29))⟩, ⟨(some 196), (some (194, true)), false, (.mv (.t 26))⟩, ⟨(some 197), (some (194, true)), false, (.bin .eql (.t 195) (.t 196))⟩, ⟨(some 198), none, false, (.pick (.t 194) (.t 197) (.c (.bool false)))⟩, ⟨(some 12), none, false, (.mv (.t 198))⟩])
 .ret))))))))))))
theorem l14 : ∃ c, f14.body = some c ∧ liteC prog f14.ntmps c = some q14 := ⟨_, rfl, by kernel_rfl⟩
theorem e14 : prog.funcs[14]? = some f14 := by kernel_rfl
theorem r14 : mapO (resOf prog) f14.results.toList = some [(.t 12)] := by kernel_rfl
theorem n14 : f14.ntmps = 199 := rfl
def T14 : TE := .fn q14 [(.t 12)] 199
theorem te14 : TEOK prog 14 T14 := te_fn e14 l14 rfl r14 n14

def q15 : RQ :=
 (.seq (.reg [⟨(some 2), none, false, (.box (.t 0))⟩, ⟨(some 3), none, false, (.box (.t 1))⟩, ⟨(some 4), none, false, (.mv (.c (.bool false)))⟩])
 (.seq (.reg [⟨(some 18), none, false, (.cal 17 [])⟩, ⟨(some 5), none, false, (.mv (.t 18))⟩])
 (.seq (.reg [⟨(some 20), none, true, (.ld true 8 (.t 2))⟩, ⟨(some 21), none, true, (.ld true 4 (.t 3))⟩, ⟨(some 22), none, false, (.cal 27 [(.t 20), (.t 21)])⟩, ⟨(some 19), none, false, (.mv (.t 22))⟩, ⟨(some 23), none, false, (.ext (.t 19) 0)⟩, ⟨(some 24), none, false, (.ext (.t 19) 1)⟩, ⟨(some 6), none, false, (.alloc [(.int .i64 0), (.int .i64 0), (.int .i64 0), (.int .i64 0), (.int .i64 0), (.int .i64 0)])⟩, ⟨none, none, false, (.st 6 (.t 6) (.t 23))⟩, ⟨(some 7), none, false, (.mv (.t 24))⟩])
 (.seq (.seq (.reg [⟨(some 25), none, true, (.ld true 8 (.t 2))⟩, ⟨(some 26), none, true, (.ld true 4 (.t 3))⟩, ⟨(some 27), none, false, (.cal 43 [(.t 25), (.t 26)])⟩, ⟨(some 28), none, false, (.not (.t 27))⟩])
 (.cond (.t 28)
 (.seq (.reg [⟨(some 30), none, true, (.ld true 8 (.t 2))⟩, ⟨(some 31), none, true, (.ld true 4 (.t 3))⟩, ⟨(some 32), none, false, (.cal 45 [(.t 30), (.t 31), (.c (.int .i64 1))])⟩, ⟨(some 29), none, false, (.mv (.t 32))⟩, ⟨(some 33), none, false, (.ext (.t 29) 0)⟩, ⟨(some 34), none, false, (.ext (.t 29) 1)⟩, ⟨(some 8), none, false, (.alloc [(.int .i64 0), (.int .i64 0), (.int .i64 0), (.int .u8 0), (.int .u64 0), (.int .u64 0)])⟩, ⟨none, none, false, (.st 6 (.t 8) (.t 33))⟩, ⟨(some 9), none, false, (.mv (.t 34))⟩])
 (.seq (.reg [⟨(some 35), none, false, (.mv (.t 5))⟩, ⟨(some 36), none, false, (.mv (.t 35))⟩, ⟨(some 37), (some (36, true)), false, (.mv (.t 7))⟩, ⟨(some 38), (some (36, true)), false, (.bin .neq (.t 37) (.c (.int .i64 0)))⟩, ⟨(some 39), none, false, (.pick (.t 36) (.t 38) (.c (.bool false)))⟩, ⟨(some 40), none, false, (.mv (.t 39))⟩, ⟨(some 41), (some (40, true)), false, (.mv (.t 9))⟩, ⟨(some 42), (some (40, true)), false, (.mv (.t 7))⟩, ⟨(some 43), (some (40, true)), false, (.bin .eql (.t 41) (.t 42))⟩, ⟨(some 44), none, false, (.pick (.t 40) (.t 43) (.c (.bool false)))⟩, ⟨(some 45), none, false, (.mv (.t 44))⟩, ⟨(some 46), (some (45, true)), true, (.ld true 8 (.t 2))⟩, ⟨(some 47), (some (45, true)), true, (.ld true 4 (.t 3))⟩, ⟨(some 48), (some (45, true)), false, (.cal 29 [(.t 46), (.t 47)])⟩, ⟨(some 49), (some (45, true)), false, (.mv (.t 7))⟩, ⟨(some 50), (some (45, true)), false, (.bin .eql (.t 48) (.t 49))⟩, ⟨(some 51), none, false, (.pick (.t 45) (.t 50) (.c (.bool false)))⟩, ⟨(some 52), none, false, (.mv (.t 51))⟩, ⟨(some 53), (some (52, true)), false, (.ld true 6 (.t 6))⟩, ⟨(some 54), (some (52, true)), false, (.build [(.int .i64 0), (.int .i64 0), (.int .i64 0), (.int .i64 0), (.int .i64 0), (.int .i64 0)] [])⟩, ⟨(some 55), (some (52, true)), false, (.eqv false [(0, (.i .i64)), (1, (.i .i64)), (2, (.i .i64)), (3, (.i .i64)), (4, (.i .i64)), (5, (.i .i64))] (.t 53) (.t 54))⟩, ⟨(some 56), none, false, (.pick (.t 52) (.t 55) (.c (.bool false)))⟩, ⟨(some 4), none, false, (.mv (.t 56))⟩])
 .ret))
 .skip))
 (.seq (.reg [⟨(some 10), none, false, (.alloc [(.int .i64 0), (.int .i64 0), (.int .i64 0), (.int .i64 0), (.int .i64 0), (.int .i64 0)])⟩])
 (.seq (.seq (.reg [⟨(some 11), none, false, (.mv (.c (.int .i64 1)))⟩])
 (.block 0 (.loop (.seq (.seq (.reg [⟨(some 57), none, false, (.mv (.t 11))⟩, ⟨(some 58), none, false, (.fa 0 (.t 3))⟩, ⟨(some 59), none, false, (.ld false 1 (.t 58))⟩, ⟨(some 60), none, false, (.len (.t 59))⟩, ⟨(some 61), none, false, (.bin .leq (.t 57) (.t 60))⟩])
 (.cond (.t 61)
 .skip
 (.exit 0)))
 (.seq (.block 1 (.seq (.reg [⟨(some 65), none, true, (.ld true 8 (.t 2))⟩, ⟨(some 66), none, true, (.ld true 4 (.t 3))⟩, ⟨(some 67), none, true, (.mv (.t 11))⟩, ⟨(some 68), none, false, (.cal 45 [(.t 65), (.t 66), (.t 67)])⟩, ⟨(some 64), none, false, (.mv (.t 68))⟩, ⟨(some 69), none, false, (.ext (.t 64) 0)⟩, ⟨(some 70), none, false, (.ext (.t 64) 1)⟩, ⟨(some 12), none, false, (.alloc [(.int .i64 0), (.int .i64 0), (.int .i64 0), (.int .u8 0), (.int .u64 0), (.int .u64 0)])⟩, ⟨none, none, false, (.st 6 (.t 12) (.t 69))⟩, ⟨(some 13), none, false, (.mv (.t 70))⟩])
 (.seq (.seq (.reg [⟨(some 71), none, false, (.mv (.t 13))⟩, ⟨(some 72), none, false, (.bin .neq (.t 71) (.c (.int .i64 0)))⟩, ⟨(some 73), none, false, (.mv (.t 72))⟩, ⟨(some 74), (some (73, false)), false, (.fa 0 (.t 12))⟩, ⟨(some 75), (some (73, false)), false, (.ld false 1 (.t 74))⟩, ⟨(some 76), (some (73, false)), false, (.mv (.t 11))⟩, ⟨(some 77), (some (73, false)), false, (.bin .neq (.t 75) (.t 76))⟩, ⟨(some 78), none, false, (.pick (.t 73) (.c (.bool true)) (.t 77))⟩, ⟨(some 79), none, false, (.mv (.t 78))⟩, ⟨(some 80), (some (79, false)), false, (.fa 3 (.t 12))⟩, ⟨(some 81), (some (79, false)), false, (.ld false 1 (.t 80))⟩, ⟨(some 82), (some (79, false)), false, (.bin .lss (.t 81) (.c (.int .u8 1)))⟩, ⟨(some 83), none, false, (.pick (.t 79) (.c (.bool true)) (.t 82))⟩, ⟨(some 84), none, false, (.mv (.t 83))⟩, ⟨(some 85), (some (84, false)), false, (.fa 3 (.t 12))⟩, ⟨(some 86), (some (84, false)), false, (.ld false 1 (.t 85))⟩, ⟨(some 87), (some (84, false)), false, (.bin .gtr (.t 86) (.c (.int .u8 5)))⟩, ⟨(some 88), none, false, (.pick (.t 84) (.c (.bool true)) (.t 87))⟩])
 (.cond (.t 88)
 (.seq (.reg [⟨(some 4), none, false, (.mv (.c (.bool false)))⟩])
 .ret)
 .skip))
 (.seq (.reg [⟨(some 89), none, false, (.iaa 6 1 (.t 10) (.c (.int .i64 0)))⟩, ⟨(some 90), none, false, (.ld false 1 (.t 89))⟩, ⟨(some 91), none, false, (.bin .add (.t 90) (.c (.int .i64 1)))⟩, ⟨(some 92), none, false, (.iaa 6 1 (.t 10) (.c (.int .i64 0)))⟩, ⟨none, none, false, (.st 1 (.t 92) (.t 91))⟩])
 (.reg [⟨(some 93), none, false, (.fa 3 (.t 12))⟩, ⟨(some 94), none, false, (.ld false 1 (.t 93))⟩, ⟨(some 95), none, false, (.iaa 6 1 (.t 10) (.t 94))⟩, ⟨(some 96), none, false, (.ld false 1 (.t 95))⟩, ⟨(some 97), none, false, (.bin .add (.t 96) (.c (.int .i64 1)))⟩, ⟨(some 98), none, false, (.iaa 6 1 (.t 10) (.t 94))⟩, ⟨none, none, false, (.st 1 (.t 98) (.t 97))⟩])))))
 (.reg [⟨(some 62), none, false, (.mv (.t 11))⟩, ⟨(some 63), none, false, (.bin .add (.t 62) (.c (.int .i64 1)))⟩, ⟨(some 11), none, false, (.mv (.t 63))⟩]))))))
 (.seq (.reg [⟨(some 100), none, true, (.ld true 8 (.t 2))⟩, ⟨(some 101), none, true, (.ld true 4 (.t 3))⟩, ⟨(some 102), none, false, (.fa 0 (.t 3))⟩, ⟨(some 103), none, false, (.ld false 1 (.t 102))⟩, ⟨(some 104), none, false, (.len (.t 103))⟩, ⟨(some 105), none, true, (.bin .add (.t 104) (.c (.int .i64 1)))⟩, ⟨(some 106), none, false, (.cal 45 [(.t 100), (.t 101), (.t 105)])⟩, ⟨(some 99), none, false, (.mv (.t 106))⟩, ⟨(some 107), none, false, (.ext (.t 99) 0)⟩, ⟨(some 108), none, false, (.ext (.t 99) 1)⟩, ⟨(some 14), none, false, (.alloc [(.int .i64 0), (.int .i64 0), (.int .i64 0), (.int .u8 0), (.int .u64 0), (.int .u64 0)])⟩, ⟨none, none, false, (.st 6 (.t 14) (.t 107))⟩, ⟨(some 15), none, false, (.mv (.t 108))⟩])
 (.seq (.reg [⟨(some 110), none, true, (.ld true 8 (.t 2))⟩, ⟨(some 111), none, true, (.ld true 4 (.t 3))⟩, ⟨(some 112), none, false, (.cal 45 [(.t 110), (.t 111), (.c (.int .i64 0))])⟩, ⟨(some 109), none, false, (.mv (.t 112))⟩, ⟨(some 113), none, false, (.ext (.t 109) 0)⟩, ⟨(some 114), none, false, (.ext (.t 109) 1)⟩, ⟨(some 16), none, false, (.alloc [(.int .i64 0), (.int .i64 0), (.int .i64 0), (.int .u8 0), (.int .u64 0), (.int .u64 0)])⟩, ⟨none, none, false, (.st 6 (.t 16) (.t 113))⟩, ⟨(some 17), none, false, (.mv (.t 114))⟩])
 (.seq (.reg [⟨(some 115), none, false, (.mv (.t 5))⟩, ⟨(some 116), none, false, (.mv (.t 115))⟩, ⟨(some 117), (some (116, true)), false, (.mv (.t 7))⟩, ⟨(some 118), (some (116, true)), false, (.bin .eql (.t 117) (.c (.int .i64 0)))⟩, ⟨(some 119), none, false, (.pick (.t 116) (.t 118) (.c (.bool false)))⟩, ⟨(some 120), none, false, (.mv (.t 119))⟩, ⟨(some 121), (some (120, true)), false, (.ld true 6 (.t 6))⟩, ⟨(some 122), (some (120, true)), false, (.ld true 6 (.t 10))⟩, ⟨(some 123), (some (120, true)), false, (.eqv false [(0, (.i .i64)), (1, (.i .i64)), (2, (.i .i64)), (3, (.i .i64)), (4, (.i .i64)), (5, (.i .i64))] (.t 121) (.t 122))⟩, ⟨(some 124), none, false, (.pick (.t 120) (.t 123) (.c (.bool false)))⟩, ⟨(some 125), none, false, (.mv (.t 124))⟩, ⟨(some 126), (some (125, true)), false, (.mv (.t 15))⟩, ⟨(some 127), (some (125, true)), false, (.bin .eql (.t 126) (.c (.int .i64 6)))⟩, ⟨(some 128), none, false, (.pick (.t 125) (.t 127) (.c (.bool false)))⟩, ⟨(some 129), none, false, (.mv (.t 128))⟩, ⟨(some 130), (some (129, true)), false, (.mv (.t 17))⟩, ⟨(some 131), (some (129, true)), false, (.bin .eql (.t 130) (.c (.int .i64 6)))⟩, ⟨(some 132), none, false, (.pick (.t 129) (.t 131) (.c (.bool false)))⟩, ⟨(some 133), none, false, (.mv (.t 132))⟩, ⟨(some 134), (some (133, true)), false, (.iaa 6 1 (.t 6) (.c (.int .u8 1)))⟩, ⟨(some 135), (some (133, true)), false, (.ld false 1 (.t 134))⟩, ⟨(some 136), (some (133, true)), false, (.fa 1 (.t 3))⟩, ⟨(some 137), (some (133, true)), false, (.ld false 1 (.t 136))⟩, ⟨(some 138), (some (133, true)), false, (.len (.t 137))⟩, ⟨(some 139), (some (133, true)), false, (.bin .eql (.t 135) (.t 138))⟩, ⟨(some 140), none, false, (.pick (.t 133) (.t 139) (.c (.bool false)))⟩, ⟨(some 4), none, false, (.mv (.t 140))⟩])
 .ret)))))))))
theorem l15 : ∃ c, f15.body = some c ∧ liteC prog f15.ntmps c = some q15 := ⟨_, rfl, by kernel_rfl⟩
theorem e15 : prog.funcs[15]? = some f15 := by kernel_rfl
theorem r15 : mapO (resOf prog) f15.results.toList = some [(.t 4)] := by kernel_rfl
theorem n15 : f15.ntmps = 141 := rfl
def T15 : TE := .fn q15 [(.t 4)] 141
theorem te15 : TEOK prog 15 T15 := te_fn e15 l15 rfl r15 n15

def q16 : RQ :=
 (.seq (.reg [⟨(some 8), none, false, (.alloc [(.int .i64 0), (.int .i64 0), (.int .i64 0), (.int .u8 0), (.int .u64 0), (.int .u64 0)])⟩, ⟨(some 9), none, false, (.mv (.c (.int .i64 0)))⟩])
 (.seq (.reg [⟨(some 11), none, false, (.mv (.t 0))⟩, ⟨(some 12), none, false, (.mv (.t 1))⟩, ⟨(some 13), none, false, (.mv (.t 2))⟩, ⟨(some 14), none, false, (.mv (.t 3))⟩, ⟨(some 15), none, false, (.build [(.int .i64 0), (.int .i64 0), (.int .i64 0), (.int .u8 0), (.int .u64 0), (.int .u64 0)] [(0, 1, (.t 11)), (1, 1, (.t 12)), (2, 1, (.t 13)), (3, 1, (.c (.int .u8 1))), (4, 1, (.t 14))])⟩, ⟨(some 10), none, false, (.alloc [(.int .i64 0), (.int .i64 0), (.int .i64 0), (.int .u8 0), (.int .u64 0), (.int .u64 0)])⟩, ⟨none, none, false, (.st 6 (.t 10) (.t 15))⟩])
 (.seq (.seq (.reg [⟨(some 16), none, true, (.ld true 6 (.t 10))⟩, ⟨(some 17), none, false, (.cal 31 [(.t 16)])⟩, ⟨(some 18), none, false, (.bin .neq (.t 17) (.c (.int .i64 0)))⟩])
 (.cond (.t 18)
 (.seq (.reg [⟨(some 19), none, false, (.build [(.int .i64 0), (.int .i64 0), (.int .i64 0), (.int .u8 0), (.int .u64 0), (.int .u64 0)] [])⟩, ⟨none, none, false, (.st 6 (.t 8) (.t 19))⟩, ⟨(some 9), none, false, (.mv (.c (.int .i64 2)))⟩])
 .ret)
 .skip))
 (.seq (.reg [⟨(some 20), none, false, (.ld true 6 (.t 10))⟩, ⟨none, none, false, (.st 6 (.t 8) (.t 20))⟩, ⟨(some 9), none, false, (.mv (.c (.int .i64 0)))⟩])
 .ret))))
theorem l16 : ∃ c, f16.body = some c ∧ liteC prog f16.ntmps c = some q16 := ⟨_, rfl, by kernel_rfl⟩
theorem e16 : prog.funcs[16]? = some f16 := by kernel_rfl
theorem r16 : mapO (resOf prog) f16.results.toList = some [(.c 8 true 6), (.t 9)] := by kernel_rfl
theorem n16 : f16.ntmps = 21 := rfl
def T16 : TE := .fn q16 [(.c 8 true 6), (.t 9)] 21
theorem te16 : TEOK prog 16 T16 := te_fn e16 l16 rfl r16 n16

def q17 : RQ :=
 (.seq (.reg [⟨(some 0), none, false, (.mv (.c (.bool false)))⟩])
 (.seq (.reg [⟨(some 13), none, false, (.cal 16 [(.c (.int .i64 1)), (.c (.int .i64 0)), (.c (.int .i64 2)), (.c (.int .u64 7))])⟩, ⟨(some 12), none, false, (.mv (.t 13))⟩, ⟨(some 14), none, false, (.ext (.t 12) 0)⟩, ⟨(some 15), none, false, (.ext (.t 12) 1)⟩, ⟨(some 1), none, false, (.alloc [(.int .i64 0), (.int .i64 0), (.int .i64 0), (.int .u8 0), (.int .u64 0), (.int .u64 0)])⟩, ⟨none, none, false, (.st 6 (.t 1) (.t 14))⟩, ⟨(some 2), none, false, (.mv (.t 15))⟩])
 (.seq (.reg [⟨(some 17), none, true, (.ld true 6 (.t 1))⟩, ⟨(some 18), none, false, (.cal 18 [(.t 17), (.c (.int .u8 2)), (.c (.int .u64 0))])⟩, ⟨(some 16), none, false, (.mv (.t 18))⟩, ⟨(some 19), none, false, (.ext (.t 16) 0)⟩, ⟨(some 20), none, false, (.ext (.t 16) 1)⟩, ⟨(some 3), none, false, (.alloc [(.int .i64 0), (.int .i64 0), (.int .i64 0), (.int .u8 0), (.int .u64 0), (.int .u64 0)])⟩, ⟨none, none, false, (.st 6 (.t 3) (.t 19))⟩, ⟨(some 4), none, false, (.mv (.t 20))⟩])
 (.seq (.reg [⟨(some 22), none, true, (.build [(.int .u64 0), (.int .i64 0)] [(1, 1, (.c (.int .i64 2)))])⟩, ⟨(some 23), none, false, (.cal 19 [(.t 22), (.c (.int .i64 8)), (.c (.int .i64 3)), (.c (.int .u64 7))])⟩, ⟨(some 21), none, false, (.mv (.t 23))⟩, ⟨(some 24), none, false, (.ext (.t 21) 0)⟩, ⟨(some 25), none, false, (.ext (.t 21) 1)⟩, ⟨(some 5), none, false, (.alloc [(.int .u64 0), (.int .i64 0)])⟩, ⟨none, none, false, (.st 2 (.t 5) (.t 24))⟩, ⟨(some 6), none, false, (.mv (.t 25))⟩])
 (.seq (.seq (.reg [⟨(some 26), none, false, (.mv (.t 2))⟩, ⟨(some 27), none, false, (.bin .neq (.t 26) (.c (.int .i64 0)))⟩, ⟨(some 28), none, false, (.mv (.t 27))⟩, ⟨(some 29), (some (28, false)), false, (.fa 0 (.t 1))⟩, ⟨(some 30), (some (28, false)), false, (.ld false 1 (.t 29))⟩, ⟨(some 31), (some (28, false)), false, (.bin .neq (.t 30) (.c (.int .i64 1)))⟩, ⟨(some 32), none, false, (.pick (.t 28) (.c (.bool true)) (.t 31))⟩, ⟨(some 33), none, false, (.mv (.t 32))⟩, ⟨(some 34), (some (33, false)), false, (.fa 2 (.t 1))⟩, ⟨(some 35), (some (33, false)), false, (.ld false 1 (.t 34))⟩, ⟨(some 36), (some (33, false)), false, (.bin .neq (.t 35) (.c (.int .i64 2)))⟩, ⟨(some 37), none, false, (.pick (.t 33) (.c (.bool true)) (.t 36))⟩, ⟨(some 38), none, false, (.mv (.t 37))⟩, ⟨(some 39), (some (38, false)), false, (.fa 3 (.t 1))⟩, ⟨(some 40), (some (38, false)), false, (.ld false 1 (.t 39))⟩, ⟨(some 41), (some (38, false)), false, (.bin .neq (.t 40) (.c (.int .u8 1)))⟩, ⟨(some 42), none, false, (.pick (.t 38) (.c (.bool true)) (.t 41))⟩, ⟨(some 43), none, false, (.mv (.t 42))⟩, ⟨(some 44), (some (43, false)), false, (.fa 4 (.t 1))⟩, ⟨(some 45), (some (43, false)), false, (.ld false 1 (.t 44))⟩, ⟨(some 46), (some (43, false)), false, (.bin .neq (.t 45) (.c (.int .u64 7)))⟩, ⟨(some 47), none, false, (.pick (.t 43) (.c (.bool true)) (.t 46))⟩, ⟨(some 48), none, false, (.mv (.t 47))⟩, ⟨(some 49), (some (48, false)), false, (.mv (.t 4))⟩, ⟨(some 50), (some (48, false)), false, (.bin .neq (.t 49) (.c (.int .i64 0)))⟩, ⟨(some 51), none, false, (.pick (.t 48) (.c (.bool true)) (.t 50))⟩, ⟨(some 52), none, false, (.mv (.t 51))⟩, ⟨(some 53), (some (52, false)), false, (.fa 3 (.t 3))⟩, ⟨(some 54), (some (52, false)), false, (.ld false 1 (.t 53))⟩, ⟨(some 55), (some (52, false)), false, (.bin .neq (.t 54) (.c (.int .u8 2)))⟩, ⟨(some 56), none, false, (.pick (.t 52) (.c (.bool true)) (.t 55))⟩, ⟨(some 57), none, false, (.mv (.t 56))⟩, ⟨(some 58), (some (57, false)), false, (.mv (.t 6))⟩, ⟨(some 59), (some (57, false)), false, (.bin .neq (.t 58) (.c (.int .i64 0)))⟩, ⟨(some 60), none, false, (.pick (.t 57) (.c (.bool true)) (.t 59))⟩, ⟨(some 61), none, false, (.mv (.t 60))⟩, ⟨(some 62), (some (61, false)), false, (.fa 1 (.t 5))⟩, ⟨(some 63), (some (61, false)), false, (.ld false 1 (.t 62))⟩, ⟨(some 64), (some (61, false)), false, (.bin .neq (.t 63) (.c (.int .i64 3)))⟩, ⟨(some 65), none, false, (.pick (.t 61) (.c (.bool true)) (.t 64))⟩])
 (.cond (.t 65)
 (.seq (.reg [⟨(some 0), none, false, (.mv (.c (.bool false)))⟩])
 .ret)
 .skip))
 (.seq (.reg [⟨(some 67), none, true, (.cal 25 [])⟩, ⟨(some 68), none, true, (.build [.nils, .nils, (.int .u64 0), (.int .i64 0)] [])⟩, ⟨(some 69), none, false, (.cal 28 [(.t 67), (.t 68), (.c (.int .i64 1)), (.c (.int .i64 0)), (.c (.int .u64 3))])⟩, ⟨(some 66), none, false, (.mv (.t 69))⟩, ⟨(some 70), none, false, (.ext (.t 66) 0)⟩, ⟨(some 71), none, false, (.ext (.t 66) 1)⟩, ⟨(some 72), none, false, (.ext (.t 66) 2)⟩, ⟨(some 7), none, false, (.alloc [.nils, .nils, (.int .u64 0), (.int .i64 0)])⟩, ⟨none, none, false, (.st 4 (.t 7) (.t 70))⟩, ⟨(some 8), none, false, (.mv (.t 71))⟩, ⟨(some 2), none, false, (.mv (.t 72))⟩])
 (.seq (.seq (.reg [⟨(some 73), none, false, (.mv (.t 2))⟩, ⟨(some 74), none, false, (.bin .neq (.t 73) (.c (.int .i64 0)))⟩, ⟨(some 75), none, false, (.mv (.t 74))⟩, ⟨(some 76), (some (75, false)), false, (.mv (.t 8))⟩, ⟨(some 77), (some (75, false)), false, (.bin .neq (.t 76) (.c (.int .i64 1)))⟩, ⟨(some 78), none, false, (.pick (.t 75) (.c (.bool true)) (.t 77))⟩, ⟨(some 79), none, false, (.mv (.t 78))⟩, ⟨(some 80), (some (79, false)), false, (.fa 0 (.t 7))⟩, ⟨(some 81), (some (79, false)), false, (.ld false 1 (.t 80))⟩, ⟨(some 82), (some (79, false)), false, (.len (.t 81))⟩, ⟨(some 83), (some (79, false)), false, (.bin .neq (.t 82) (.c (.int .i64 1)))⟩, ⟨(some 84), none, false, (.pick (.t 79) (.c (.bool true)) (.t 83))⟩, ⟨(some 85), none, false, (.mv (.t 84))⟩, ⟨(some 86), (some (85, false)), false, (.fa 1 (.t 7))⟩, ⟨(some 87), (some (85, false)), false, (.ld false 1 (.t 86))⟩, ⟨(some 88), (some (85, false)), false, (.len (.t 87))⟩, ⟨(some 89), (some (85, false)), false, (.bin .neq (.t 88) (.c (.int .i64 1)))⟩, ⟨(some 90), none, false, (.pick (.t 85) (.c (.bool true)) (.t 89))⟩, ⟨(some 91), none, false, (.mv (.t 90))⟩, ⟨(some 92), (some (91, false)), false, (.fa 2 (.t 7))⟩, ⟨(some 93), (some (91, false)), false, (.fa 1 (.t 92))⟩, ⟨(some 94), (some (91, false)), false, (.ld false 1 (.t 93))⟩, ⟨(some 95), (some (91, false)), false, (.bin .neq (.t 94) (.c (.int .i64 1)))⟩, ⟨(some 96), none, false, (.pick (.t 91) (.c (.bool true)) (.t 95))⟩])
 (.cond (.t 96)
 (.seq (.reg [⟨(some 0), none, false, (.mv (.c (.bool false)))⟩])
 .ret)
 .skip))
 (.seq (.drw [(false, ⟨(some 98), none, true, (.cal 25 [])⟩), (false, ⟨(some 99), none, true, (.ld true 4 (.t 7))⟩), (false, ⟨(some 100), none, false, (.cal 44 [(.t 98), (.t 99)])⟩), (false, ⟨(some 97), none, false, (.mv (.t 100))⟩), (false, ⟨(some 101), none, false, (.ext (.t 97) 0)⟩), (true, ⟨(some 102), none, false, (.ext (.t 97) 1)⟩), (true, ⟨(some 103), none, false, (.ext (.t 97) 2)⟩), (false, ⟨(some 9), none, false, (.alloc [.nils, .nils, (.int .u64 0), (.int .i64 0)])⟩), (false, ⟨none, none, false, (.st 4 (.t 9) (.t 101))⟩), (false, ⟨(some 10), none, false, (.mv (.t 102))⟩), (false, ⟨(some 4), none, false, (.mv (.t 103))⟩)] [])
 (.seq (.drw [(false, ⟨(some 105), none, true, (.cal 25 [])⟩), (false, ⟨(some 106), none, true, (.ld true 4 (.t 9))⟩), (false, ⟨(some 107), none, false, (.cal 45 [(.t 105), (.t 106), (.c (.int .i64 1))])⟩), (false, ⟨(some 104), none, false, (.mv (.t 107))⟩), (false, ⟨(some 108), none, false, (.ext (.t 104) 0)⟩), (true, ⟨(some 109), none, false, (.ext (.t 104) 1)⟩), (false, ⟨(some 11), none, false, (.alloc [(.int .i64 0), (.int .i64 0), (.int .i64 0), (.int .u8 0), (.int .u64 0), (.int .u64 0)])⟩), (false, ⟨none, none, false, (.st 6 (.t 11) (.t 108))⟩), (false, ⟨(some 6), none, false, (.mv (.t 109))⟩)] [])
 (.seq (.reg [⟨(some 110), none, false, (.mv (.t 4))⟩, ⟨(some 111), none, false, (.bin .eql (.t 110) (.c (.int .i64 0)))⟩, ⟨(some 112), none, false, (.mv (.t 111))⟩, ⟨(some 113), (some (112, true)), false, (.mv (.t 10))⟩, ⟨(some 114), (some (112, true)), false, (.bin .eql (.t 113) (.c (.int .i64 1)))⟩, ⟨(some 115), none, false, (.pick (.t 112) (.t 114) (.c (.bool false)))⟩, ⟨(some 116), none, false, (.mv (.t 115))⟩, ⟨(some 117), (some (116, true)), false, (.mv (.t 6))⟩, ⟨(some 118), (some (116, true)), false, (.bin .eql (.t 117) (.c (.int .i64 0)))⟩, ⟨(some 119), none, false, (.pick (.t 116) (.t 118) (.c (.bool false)))⟩, ⟨(some 120), none, false, (.mv (.t 119))⟩, ⟨(some 121), (some (120, true)), false, (.fa 1 (.t 11))⟩, ⟨(some 122), (some (120, true)), false, (.ld false 1 (.t 121))⟩, ⟨(some 123), (some (120, true)), false, (.bin .eql (.t 122) (.c (.int .i64 1)))⟩, ⟨(some 124), none, false, (.pick (.t 120) (.t 123) (.c (.bool false)))⟩, ⟨(some 125), none, false, (.mv (.t 124))⟩, ⟨(some 126), (some (125, true)), false, (.fa 4 (.t 11))⟩, ⟨(some 127), (some (125, true)), false, (.ld false 1 (.t 126))⟩, ⟨(some 128), (some (125, true)), false, (.bin .eql (.t 127) (.c (.int .u64 3)))⟩, ⟨(some 129), none, false, (.pick (.t 125) (.t 128) (.c (.bool false)))⟩, ⟨(some 130), none, false, (.mv (.t 129))⟩, ⟨(some 131), (some (130, true)), false, (.fa 3 (.t 11))⟩, ⟨(some 132), (some (130, true)), false, (.ld false 1 (.t 131))⟩, ⟨(some 133), (some (130, true)), false, (.bin .eql (.t 132) (.c (.int .u8 2)))⟩, ⟨(some 134), none, false, (.pick (.t 130) (.t 133) (.c (.bool false)))⟩, ⟨(some 0), none, false, (.mv (.t 134))⟩])
 .ret))))))))))
theorem l17 : ∃ c, f17.body = some c ∧ liteC prog f17.ntmps c = some q17 := ⟨_, rfl, by kernel_rfl⟩
theorem e17 : prog.funcs[17]? = some f17 := by kernel_rfl
theorem r17 : mapO (resOf prog) f17.results.toList = some [(.t 0)] := by kernel_rfl
theorem n17 : f17.ntmps = 135 := rfl
def T17 : TE := .fn q17 [(.t 0)] 135
theorem te17 : TEOK prog 17 T17 := te_fn e17 l17 rfl r17 n17

def q18 : RQ :=
 (.seq (.reg [⟨(some 3), none, false, (.box (.t 0))⟩, ⟨(some 6), none, false, (.alloc [(.int .i64 0), (.int .i64 0), (.int .i64 0), (.int .u8 0), (.int .u64 0), (.int .u64 0)])⟩, ⟨(some 7), none, false, (.mv (.c (.int .i64 0)))⟩])
 (.seq (.seq (.reg [⟨(some 9), none, true, (.ld true 6 (.t 3))⟩, ⟨(some 10), none, false, (.cal 31 [(.t 9)])⟩, ⟨(some 8), none, false, (.mv (.t 10))⟩])
 (.seq (.reg [⟨(some 11), none, false, (.mv (.t 8))⟩, ⟨(some 12), none, false, (.bin .neq (.t 11) (.c (.int .i64 0)))⟩])
 (.cond (.t 12)
 (.seq (.reg [⟨(some 13), none, false, (.build [(.int .i64 0), (.int .i64 0), (.int .i64 0), (.int .u8 0), (.int .u64 0), (.int .u64 0)] [])⟩, ⟨(some 14), none, false, (.mv (.t 8))⟩, ⟨none, none, false, (.st 6 (.t 6) (.t 13))⟩, ⟨(some 7), none, false, (.mv (.t 14))⟩])
 .ret)
 .skip)))
 (.seq (.seq (.reg [⟨(some 15), none, true, (.mv (.t 1))⟩, ⟨(some 16), none, false, (.cal 47 [(.t 15)])⟩, ⟨(some 17), none, false, (.not (.t 16))⟩, ⟨(some 18), none, false, (.mv (.t 17))⟩, ⟨(some 19), (some (18, false)), false, (.mv (.t 2))⟩, ⟨(some 20), (some (18, false)), false, (.bin .gtr (.t 19) (.c (.int .u64 4611686018427387904)))⟩, ⟨(some 21), none, false, (.pick (.t 18) (.c (.bool true)) (.t 20))⟩, ⟨(some 22), none, false, (.mv (.t 21))⟩, ⟨(some 23), (some (22, false)), false, (.mv (.t 1))⟩, ⟨(some 24), (some (22, false)), false, (.bin .eql (.t 23) (.c (.int .u8 4)))⟩, ⟨(some 25), (some (22, false)), false, (.mv (.t 24))⟩, ⟨(some 26), (some (25, true)), false, (.mv (.t 2))⟩, ⟨(some 27), (some (25, true)), false, (.bin .eql (.t 26) (.c (.int .u64 0)))⟩, ⟨(some 28), (some (22, false)), false, (.pick (.t 25) (.t 27) (.c (.bool false)))⟩, ⟨(some 29), none, false, (.pick (.t 22) (.c (.bool true)) (.t 28))⟩])
 (.cond (.t 29)
 (.seq (.reg [⟨(some 30), none, false, (.build [(.int .i64 0), (.int .i64 0), (.int .i64 0), (.int .u8 0), (.int .u64 0), (.int .u64 0)] [])⟩, ⟨none, none, false, (.st 6 (.t 6) (.t 30))⟩, ⟨(some 7), none, false, (.mv (.c (.int .i64 2)))⟩])
 .ret)
 .skip))
 (.seq (.seq (.reg [⟨(some 31), none, false, (.fa 3 (.t 3))⟩, ⟨(some 32), none, true, (.ld false 1 (.t 31))⟩, ⟨(some 33), none, true, (.mv (.t 1))⟩, ⟨(some 34), none, false, (.cal 48 [(.t 32), (.t 33)])⟩, ⟨(some 35), none, false, (.not (.t 34))⟩])
 (.cond (.t 35)
 (.seq (.reg [⟨(some 36), none, false, (.build [(.int .i64 0), (.int .i64 0), (.int .i64 0), (.int .u8 0), (.int .u64 0), (.int .u64 0)] [])⟩, ⟨none, none, false, (.st 6 (.t 6) (.t 36))⟩, ⟨(some 7), none, false, (.mv (.c (.int .i64 150)))⟩])
 .ret)
 .skip))
 (.seq (.reg [⟨(some 37), none, false, (.mv (.t 1))⟩, ⟨(some 38), none, false, (.fa 3 (.t 3))⟩, ⟨none, none, false, (.st 1 (.t 38) (.t 37))⟩])
 (.seq (.seq (.reg [⟨(some 39), none, false, (.mv (.t 1))⟩, ⟨(some 40), none, false, (.bin .eql (.t 39) (.c (.int .u8 4)))⟩])
 (.cond (.t 40)
 (.reg [⟨(some 41), none, false, (.mv (.t 2))⟩, ⟨(some 42), none, false, (.fa 5 (.t 3))⟩, ⟨none, none, false, (.st 1 (.t 42) (.t 41))⟩])
 .skip))
 (.seq (.reg [⟨(some 43), none, false, (.ld true 6 (.t 3))⟩, ⟨none, none, false, (.st 6 (.t 6) (.t 43))⟩, ⟨(some 7), none, false, (.mv (.c (.int .i64 0)))⟩])
 .ret)))))))
theorem l18 : ∃ c, f18.body = some c ∧ liteC prog f18.ntmps c = some q18 := ⟨_, rfl, by kernel_rfl⟩
theorem e18 : prog.funcs[18]? = some f18 := by kernel_rfl
theorem r18 : mapO (resOf prog) f18.results.toList = some [(.c 6 true 6), (.t 7)] := by kernel_rfl
theorem n18 : f18.ntmps = 44 := rfl
def T18 : TE := .fn q18 [(.c 6 true 6), (.t 7)] 44
theorem te18 : TEOK prog 18 T18 := te_fn e18 l18 rfl r18 n18

def q19 : RQ :=
 (.seq (.reg [⟨(some 4), none, false, (.box (.t 0))⟩, ⟨(some 8), none, false, (.alloc [(.int .u64 0), (.int .i64 0)])⟩, ⟨(some 9), none, false, (.mv (.c (.int .i64 0)))⟩])
 (.seq (.reg [⟨(some 13), none, true, (.ld true 2 (.t 4))⟩, ⟨(some 14), none, true, (.mv (.t 1))⟩, ⟨(some 15), none, true, (.mv (.t 2))⟩, ⟨(some 16), none, true, (.mv (.t 3))⟩, ⟨(some 17), none, false, (.cal 20 [(.t 13), (.t 14), (.t 15), (.t 16)])⟩, ⟨(some 12), none, false, (.mv (.t 17))⟩, ⟨(some 18), none, false, (.ext (.t 12) 0)⟩, ⟨(some 19), none, false, (.ext (.t 12) 1)⟩, ⟨(some 10), none, false, (.mv (.t 18))⟩, ⟨(some 11), none, false, (.mv (.t 19))⟩])
 (.seq (.seq (.reg [⟨(some 20), none, false, (.mv (.t 11))⟩, ⟨(some 21), none, false, (.bin .neq (.t 20) (.c (.int .i64 0)))⟩])
 (.cond (.t 21)
 (.seq (.reg [⟨(some 22), none, false, (.build [(.int .u64 0), (.int .i64 0)] [])⟩, ⟨(some 23), none, false, (.mv (.t 11))⟩, ⟨none, none, false, (.st 2 (.t 8) (.t 22))⟩, ⟨(some 9), none, false, (.mv (.t 23))⟩])
 .ret)
 .skip))
 (.seq (.seq (.reg [⟨(some 24), none, false, (.mv (.t 10))⟩, ⟨(some 25), none, false, (.bin .eql (.t 24) (.c (.int .i64 0)))⟩])
 (.cond (.t 25)
 (.seq (.reg [⟨(some 26), none, false, (.build [(.int .u64 0), (.int .i64 0)] [])⟩, ⟨none, none, false, (.st 2 (.t 8) (.t 26))⟩, ⟨(some 9), none, false, (.mv (.c (.int .i64 160)))⟩])
 .ret)
 .skip))
 (.seq (.reg [⟨(some 27), none, true, (.mv (.t 3))⟩, ⟨(some 28), none, true, (.mv (.t 1))⟩, ⟨(some 29), none, false, (.cal 49 [(.t 27), (.t 28)])⟩, ⟨(some 30), none, false, (.mv (.t 2))⟩, ⟨(some 31), none, false, (.mv (.t 10))⟩, ⟨(some 32), none, false, (.bin .sub (.t 30) (.t 31))⟩, ⟨(some 33), none, false, (.bin .add (.t 32) (.c (.int .i64 1)))⟩, ⟨(some 34), none, false, (.build [(.int .u64 0), (.int .i64 0)] [(0, 1, (.t 29)), (1, 1, (.t 33))])⟩, ⟨none, none, false, (.st 2 (.t 8) (.t 34))⟩, ⟨(some 9), none, false, (.mv (.c (.int .i64 0)))⟩])
 .ret)))))
theorem l19 : ∃ c, f19.body = some c ∧ liteC prog f19.ntmps c = some q19 := ⟨_, rfl, by kernel_rfl⟩
theorem e19 : prog.funcs[19]? = some f19 := by kernel_rfl
theorem r19 : mapO (resOf prog) f19.results.toList = some [(.c 8 true 2), (.t 9)] := by kernel_rfl
theorem n19 : f19.ntmps = 35 := rfl
def T19 : TE := .fn q19 [(.c 8 true 2), (.t 9)] 35
theorem te19 : TEOK prog 19 T19 := te_fn e19 l19 rfl r19 n19

def q20 : RQ :=
 (.seq (.reg [⟨(some 4), none, false, (.box (.t 0))⟩, ⟨(some 8), none, false, (.mv (.c (.int .i64 0)))⟩, ⟨(some 9), none, false, (.mv (.c (.int .i64 0)))⟩])
 (.seq (.seq (.reg [⟨(some 11), none, true, (.ld true 2 (.t 4))⟩, ⟨(some 12), none, true, (.mv (.t 1))⟩, ⟨(some 13), none, true, (.mv (.t 2))⟩, ⟨(some 14), none, false, (.cal 21 [(.t 11), (.t 12), (.t 13)])⟩, ⟨(some 10), none, false, (.mv (.t 14))⟩])
 (.seq (.reg [⟨(some 15), none, false, (.mv (.t 10))⟩, ⟨(some 16), none, false, (.bin .neq (.t 15) (.c (.int .i64 0)))⟩])
 (.cond (.t 16)
 (.seq (.reg [⟨(some 17), none, false, (.mv (.t 10))⟩, ⟨(some 8), none, false, (.mv (.c (.int .i64 0)))⟩, ⟨(some 9), none, false, (.mv (.t 17))⟩])
 .ret)
 .skip)))
 (.seq (.seq (.reg [⟨(some 18), none, false, (.mv (.t 3))⟩, ⟨(some 19), none, false, (.bin .gtr (.t 18) (.c (.int .u64 4611686018427387904)))⟩])
 (.cond (.t 19)
 (.seq (.reg [⟨(some 8), none, false, (.mv (.c (.int .i64 0)))⟩, ⟨(some 9), none, false, (.mv (.c (.int .i64 2)))⟩])
 .ret)
 .skip))
 (.seq (.seq (.drw [(false, ⟨(some 20), none, true, (.mv (.t 3))⟩), (false, ⟨(some 21), none, true, (.mv (.t 1))⟩), (false, ⟨(some 22), none, false, (.cal 49 [(.t 20), (.t 21)])⟩), (false, ⟨(some 23), none, false, (.fa 0 (.t 4))⟩), (false, ⟨(some 24), none, false, (.ld false 1 (.t 23))⟩), (false, ⟨(some 25), none, false, (.bin .neq (.t 22) (.t 24))⟩)] [])
 (.cond (.t 25)
 (.seq (.reg [⟨(some 26), none, false, (.mv (.t 2))⟩, ⟨(some 8), none, false, (.mv (.t 26))⟩, ⟨(some 9), none, false, (.mv (.c (.int .i64 0)))⟩])
 .ret)
 .skip))
 (.seq (.reg [⟨(some 27), none, false, (.mv (.t 2))⟩, ⟨(some 28), none, false, (.fa 1 (.t 4))⟩, ⟨(some 29), none, false, (.ld false 1 (.t 28))⟩, ⟨(some 30), none, false, (.bin .sub (.t 27) (.t 29))⟩, ⟨(some 8), none, false, (.mv (.t 30))⟩, ⟨(some 9), none, false, (.mv (.c (.int .i64 0)))⟩])
 .ret)))))
theorem l20 : ∃ c, f20.body = some c ∧ liteC prog f20.ntmps c = some q20 := ⟨_, rfl, by kernel_rfl⟩
theorem e20 : prog.funcs[20]? = some f20 := by kernel_rfl
theorem r20 : mapO (resOf prog) f20.results.toList = some [(.t 8), (.t 9)] := by kernel_rfl
theorem n20 : f20.ntmps = 31 := rfl
def T20 : TE := .fn q20 [(.t 8), (.t 9)] 31
theorem te20 : TEOK prog 20 T20 := te_fn e20 l20 rfl r20 n20

def q21 : RQ :=
 (.seq (.reg [⟨(some 3), none, false, (.box (.t 0))⟩, ⟨(some 6), none, false, (.mv (.c (.int .i64 0)))⟩])
 (.seq (.seq (.reg [⟨(some 7), none, false, (.mv (.t 1))⟩, ⟨(some 8), none, true, (.bslice 1 1 [(.int .i64 0)] [(0, (.t 7))])⟩, ⟨(some 9), none, false, (.cal 50 [(.c (.int .i64 1)), (.c (.int .i64 64)), (.t 8)])⟩, ⟨(some 10), none, false, (.not (.t 9))⟩, ⟨(some 11), none, false, (.mv (.t 10))⟩, ⟨(some 12), (some (11, false)), false, (.mv (.t 2))⟩, ⟨(some 13), (some (11, false)), true, (.bslice 1 1 [(.int .i64 0)] [(0, (.t 12))])⟩, ⟨(some 14), (some (11, false)), false, (.cal 50 [(.c (.int .i64 1)), (.c (.int .i64 16)), (.t 13)])⟩, ⟨(some 15), (some (11, false)), false, (.not (.t 14))⟩, ⟨(some 16), none, false, (.pick (.t 11) (.c (.bool true)) (.t 15))⟩])
 (.cond (.t 16)
 (.seq (.reg [⟨(some 6), none, false, (.mv (.c (.int .i64 2)))⟩])
 .ret)
 .skip))
 (.seq (.seq (.reg [⟨(some 17), none, false, (.fa 0 (.t 3))⟩, ⟨(some 18), none, false, (.ld false 1 (.t 17))⟩, ⟨(some 19), none, false, (.bin .gtr (.t 18) (.c (.int .u64 4611686018427387904)))⟩, ⟨(some 20), none, false, (.mv (.t 19))⟩, ⟨(some 21), (some (20, false)), true, (.mv (.t 2))⟩, ⟨(some 22), (some (20, false)), false, (.fa 1 (.t 3))⟩, ⟨(some 23), (some (20, false)), false, (.ld false 1 (.t 22))⟩, ⟨(some 24), (some (20, false)), true, (.bslice 1 1 [(.int .i64 0)] [(0, (.t 23))])⟩, ⟨(some 25), (some (20, false)), false, (.cal 50 [(.c (.int .i64 0)), (.t 21), (.t 24)])⟩, ⟨(some 26), (some (20, false)), false, (.not (.t 25))⟩, ⟨(some 27), none, false, (.pick (.t 20) (.c (.bool true)) (.t 26))⟩])
 (.cond (.t 27)
 (.seq (.reg [⟨(some 6), none, false, (.mv (.c (.int .i64 8)))⟩])
 .ret)
 .skip))
 (.seq (.reg [⟨(some 6), none, false, (.mv (.c (.int .i64 0)))⟩])
 .ret))))
theorem l21 : ∃ c, f21.body = some c ∧ liteC prog f21.ntmps c = some q21 := ⟨_, rfl, by kernel_rfl⟩
theorem e21 : prog.funcs[21]? = some f21 := by kernel_rfl
theorem r21 : mapO (resOf prog) f21.results.toList = some [(.t 6)] := by kernel_rfl
theorem n21 : f21.ntmps = 28 := rfl
def T21 : TE := .fn q21 [(.t 6)] 28
theorem te21 : TEOK prog 21 T21 := te_fn e21 l21 rfl r21 n21

def q22 : RQ :=
 (.seq (.reg [⟨(some 6), none, false, (.alloc [(.int .u8 0), (.int .i64 0), (.int .i64 0), (.int .i64 0), (.int .u64 0)])⟩])
 (.seq (.reg [⟨(some 7), none, false, (.mv (.t 0))⟩, ⟨(some 8), none, false, (.mv (.t 1))⟩, ⟨(some 9), none, false, (.mv (.t 2))⟩, ⟨(some 10), none, false, (.build [(.int .u8 0), (.int .i64 0), (.int .i64 0), (.int .i64 0), (.int .u64 0)] [(0, 1, (.c (.int .u8 0))), (1, 1, (.t 7)), (2, 1, (.t 8)), (4, 1, (.t 9))])⟩, ⟨none, none, false, (.st 5 (.t 6) (.t 10))⟩])
 .ret))
theorem l22 : ∃ c, f22.body = some c ∧ liteC prog f22.ntmps c = some q22 := ⟨_, rfl, by kernel_rfl⟩
theorem e22 : prog.funcs[22]? = some f22 := by kernel_rfl
theorem r22 : mapO (resOf prog) f22.results.toList = some [(.c 6 true 5)] := by kernel_rfl
theorem n22 : f22.ntmps = 11 := rfl
def T22 : TE := .fn q22 [(.c 6 true 5)] 11
theorem te22 : TEOK prog 22 T22 := te_fn e22 l22 rfl r22 n22

def q23 : RQ :=
 (.seq (.reg [⟨(some 6), none, false, (.alloc [(.int .u8 0), (.int .i64 0), (.int .i64 0), (.int .i64 0), (.int .u64 0)])⟩])
 (.seq (.reg [⟨(some 7), none, false, (.mv (.t 0))⟩, ⟨(some 8), none, false, (.mv (.t 1))⟩, ⟨(some 9), none, false, (.mv (.t 2))⟩, ⟨(some 10), none, false, (.build [(.int .u8 0), (.int .i64 0), (.int .i64 0), (.int .i64 0), (.int .u64 0)] [(0, 1, (.t 7)), (3, 1, (.t 8)), (4, 1, (.t 9))])⟩, ⟨none, none, false, (.st 5 (.t 6) (.t 10))⟩])
 .ret))
theorem l23 : ∃ c, f23.body = some c ∧ liteC prog f23.ntmps c = some q23 := ⟨_, rfl, by kernel_rfl⟩
theorem e23 : prog.funcs[23]? = some f23 := by kernel_rfl
theorem r23 : mapO (resOf prog) f23.results.toList = some [(.c 6 true 5)] := by kernel_rfl
theorem n23 : f23.ntmps = 11 := rfl
def T23 : TE := .fn q23 [(.c 6 true 5)] 11
theorem te23 : TEOK prog 23 T23 := te_fn e23 l23 rfl r23 n23

def q24 : RQ :=
 (.seq (.reg [⟨(some 3), none, false, (.box (.t 0))⟩, ⟨(some 4), none, false, (.box (.t 1))⟩, ⟨(some 5), none, false, (.box (.t 2))⟩, ⟨(some 6), none, false, (.alloc [.nils, .nils, (.int .u64 0), (.int .i64 0), (.int .i64 0), (.int .i64 0), (.int .i64 0), (.int .i64 0), (.int .u8 0), (.int .u64 0), (.int .u64 0), (.int .i64 0), (.int .i64 0), (.int .i64 0), (.int .i64 0), (.int .i64 0), (.int .i64 0), (.int .i64 0)])⟩])
 (.seq (.reg [⟨(some 9), none, false, (.build [.nils, .nils, (.int .u64 0), (.int .i64 0), (.int .i64 0), (.int .i64 0), (.int .i64 0), (.int .i64 0), (.int .u8 0), (.int .u64 0), (.int .u64 0), (.int .i64 0), (.int .i64 0), (.int .i64 0), (.int .i64 0), (.int .i64 0), (.int .i64 0), (.int .i64 0)] [])⟩, ⟨(some 7), none, false, (.alloc [.nils, .nils, (.int .u64 0), (.int .i64 0), (.int .i64 0), (.int .i64 0), (.int .i64 0), (.int .i64 0), (.int .u8 0), (.int .u64 0), (.int .u64 0), (.int .i64 0), (.int .i64 0), (.int .i64 0), (.int .i64 0), (.int .i64 0), (.int .i64 0), (.int .i64 0)])⟩, ⟨none, none, false, (.st 18 (.t 7) (.t 9))⟩])
 (.seq (.reg [⟨(some 8), none, false, (.mv (.c (.int .i64 0)))⟩])
 (.seq (.seq (.reg [⟨(some 10), none, false, (.fa 0 (.t 5))⟩, ⟨(some 11), none, false, (.ld false 1 (.t 10))⟩, ⟨(some 12), none, false, (.bin .rem (.t 11) (.c (.int .u8 7)))⟩])
 (.block 0 (.seq (.reg [⟨(some 14), none, false, (.bin .eql (.t 12) (.c (.int .u8 0)))⟩, ⟨(some 13), none, false, (.mv (.t 14))⟩])
 (.cond (.t 13)
 (.reg [⟨(some 16), none, true, (.ld true 8 (.t 3))⟩, ⟨(some 17), none, true, (.ld true 4 (.t 4))⟩, ⟨(some 18), none, false, (.fa 1 (.t 5))⟩, ⟨(some 19), none, true, (.ld false 1 (.t 18))⟩, ⟨(some 20), none, false, (.fa 2 (.t 5))⟩, ⟨(some 21), none, true, (.ld false 1 (.t 20))⟩, ⟨(some 22), none, false, (.fa 4 (.t 5))⟩, ⟨(some 23), none, true, (.ld false 1 (.t 22))⟩, ⟨(some 24), none, false, (.cal 28 [(.t 16), (.t 17), (.t 19), (.t 21), (.t 23)])⟩, ⟨(some 15), none, false, (.mv (.t 24))⟩, ⟨(some 25), none, false, (.ext (.t 15) 0)⟩, ⟨(some 26), none, false, (.ext (.t 15) 1)⟩, ⟨(some 27), none, false, (.ext (.t 15) 2)⟩, ⟨(some 28), none, false, (.fa 0 (.t 7))⟩, ⟨none, none, false, (.st 4 (.t 28) (.t 25))⟩, ⟨(some 29), none, false, (.fa 4 (.t 7))⟩, ⟨none, none, false, (.st 1 (.t 29) (.t 26))⟩, ⟨(some 8), none, false, (.mv (.t 27))⟩])
 (.seq (.reg [⟨(some 31), none, false, (.bin .eql (.t 12) (.c (.int .u8 1)))⟩, ⟨(some 30), none, false, (.mv (.t 31))⟩])
 (.cond (.t 30)
 (.reg [⟨(some 33), none, true, (.ld true 8 (.t 3))⟩, ⟨(some 34), none, true, (.ld true 4 (.t 4))⟩, ⟨(some 35), none, false, (.fa 3 (.t 5))⟩, ⟨(some 36), none, true, (.ld false 1 (.t 35))⟩, ⟨(some 37), none, false, (.cal 46 [(.t 33), (.t 34), (.t 36)])⟩, ⟨(some 32), none, false, (.mv (.t 37))⟩, ⟨(some 38), none, false, (.ext (.t 32) 0)⟩, ⟨(some 39), none, false, (.ext (.t 32) 1)⟩, ⟨(some 40), none, false, (.fa 0 (.t 7))⟩, ⟨none, none, false, (.st 4 (.t 40) (.t 38))⟩, ⟨(some 8), none, false, (.mv (.t 39))⟩])
 (.seq (.reg [⟨(some 42), none, false, (.bin .eql (.t 12) (.c (.int .u8 2)))⟩, ⟨(some 41), none, false, (.mv (.t 42))⟩])
 (.cond (.t 41)
 (.reg [⟨(some 44), none, true, (.ld true 8 (.t 3))⟩, ⟨(some 45), none, true, (.ld true 4 (.t 4))⟩, ⟨(some 46), none, false, (.cal 44 [(.t 44), (.t 45)])⟩, ⟨(some 43), none, false, (.mv (.t 46))⟩, ⟨(some 47), none, false, (.ext (.t 43) 0)⟩, ⟨(some 48), none, false, (.ext (.t 43) 1)⟩, ⟨(some 49), none, false, (.ext (.t 43) 2)⟩, ⟨(some 50), none, false, (.fa 0 (.t 7))⟩, ⟨none, none, false, (.st 4 (.t 50) (.t 47))⟩, ⟨(some 51), none, false, (.fa 4 (.t 7))⟩, ⟨none, none, false, (.st 1 (.t 51) (.t 48))⟩, ⟨(some 8), none, false, (.mv (.t 49))⟩])
 (.seq (.reg [⟨(some 53), none, false, (.bin .eql (.t 12) (.c (.int .u8 3)))⟩, ⟨(some 52), none, false, (.mv (.t 53))⟩])
 (.cond (.t 52)
 (.reg [⟨(some 55), none, true, (.ld true 8 (.t 3))⟩, ⟨(some 56), none, true, (.ld true 4 (.t 4))⟩, ⟨(some 57), none, false, (.fa 3 (.t 5))⟩, ⟨(some 58), none, true, (.ld false 1 (.t 57))⟩, ⟨(some 59), none, false, (.cal 51 [(.t 55), (.t 56), (.t 58)])⟩, ⟨(some 54), none, false, (.mv (.t 59))⟩, ⟨(some 60), none, false, (.ext (.t 54) 0)⟩, ⟨(some 61), none, false, (.ext (.t 54) 1)⟩, ⟨(some 62), none, false, (.fa 0 (.t 7))⟩, ⟨none, none, false, (.st 4 (.t 62) (.t 60))⟩, ⟨(some 8), none, false, (.mv (.t 61))⟩])
 (.seq (.reg [⟨(some 64), none, false, (.bin .eql (.t 12) (.c (.int .u8 4)))⟩, ⟨(some 63), none, false, (.mv (.t 64))⟩])
 (.cond (.t 63)
 (.reg [⟨(some 66), none, true, (.ld true 8 (.t 3))⟩, ⟨(some 67), none, true, (.ld true 4 (.t 4))⟩, ⟨(some 68), none, false, (.fa 3 (.t 5))⟩, ⟨(some 69), none, true, (.ld false 1 (.t 68))⟩, ⟨(some 70), none, false, (.fa 4 (.t 5))⟩, ⟨(some 71), none, true, (.ld false 1 (.t 70))⟩, ⟨(some 72), none, false, (.cal 52 [(.t 66), (.t 67), (.t 69), (.t 71)])⟩, ⟨(some 65), none, false, (.mv (.t 72))⟩, ⟨(some 73), none, false, (.ext (.t 65) 0)⟩, ⟨(some 74), none, false, (.ext (.t 65) 1)⟩, ⟨(some 75), none, false, (.fa 0 (.t 7))⟩, ⟨none, none, false, (.st 4 (.t 75) (.t 73))⟩, ⟨(some 8), none, false, (.mv (.t 74))⟩])
 (.seq (.reg [⟨(some 77), none, false, (.bin .eql (.t 12) (.c (.int .u8 5)))⟩, ⟨(some 76), none, false, (.mv (.t 77))⟩])
 (.cond (.t 76)
 (.reg [⟨(some 79), none, true, (.ld true 8 (.t 3))⟩, ⟨(some 80), none, true, (.ld true 4 (.t 4))⟩, ⟨(some 81), none, false, (.fa 3 (.t 5))⟩, ⟨(some 82), none, true, (.ld false 1 (.t 81))⟩, ⟨(some 83), none, false, (.cal 45 [(.t 79), (.t 80), (.t 82)])⟩, ⟨(some 78), none, false, (.mv (.t 83))⟩, ⟨(some 84), none, false, (.ext (.t 78) 0)⟩, ⟨(some 85), none, false, (.ext (.t 78) 1)⟩, ⟨(some 86), none, false, (.fa 5 (.t 7))⟩, ⟨none, none, false, (.st 6 (.t 86) (.t 84))⟩, ⟨(some 8), none, false, (.mv (.t 85))⟩])
 (.seq (.reg [⟨(some 88), none, false, (.bin .eql (.t 12) (.c (.int .u8 6)))⟩, ⟨(some 87), none, false, (.mv (.t 88))⟩])
 (.cond (.t 87)
 (.reg [⟨(some 90), none, true, (.ld true 8 (.t 3))⟩, ⟨(some 91), none, true, (.ld true 4 (.t 4))⟩, ⟨(some 92), none, false, (.cal 27 [(.t 90), (.t 91)])⟩, ⟨(some 89), none, false, (.mv (.t 92))⟩, ⟨(some 93), none, false, (.ext (.t 89) 0)⟩, ⟨(some 94), none, false, (.ext (.t 89) 1)⟩, ⟨(some 95), none, false, (.fa 11 (.t 7))⟩, ⟨none, none, false, (.st 6 (.t 95) (.t 93))⟩, ⟨(some 8), none, false, (.mv (.t 94))⟩])
 .skip))))))))))))))))
 (.seq (.reg [⟨(some 96), none, false, (.mv (.t 8))⟩, ⟨(some 97), none, false, (.fa 17 (.t 7))⟩, ⟨none, none, false, (.st 1 (.t 97) (.t 96))⟩])
 (.seq (.reg [⟨(some 98), none, false, (.ld true 18 (.t 7))⟩, ⟨none, none, false, (.st 18 (.t 6) (.t 98))⟩])
 .ret))))))
theorem l24 : ∃ c, f24.body = some c ∧ liteC prog f24.ntmps c = some q24 := ⟨_, rfl, by kernel_rfl⟩
theorem e24 : prog.funcs[24]? = some f24 := by kernel_rfl
theorem r24 : mapO (resOf prog) f24.results.toList = some [(.c 6 true 18)] := by kernel_rfl
theorem n24 : f24.ntmps = 99 := rfl
def T24 : TE := .fn q24 [(.c 6 true 18)] 99
theorem te24 : TEOK prog 24 T24 := te_fn e24 l24 rfl r24 n24

def q25 : RQ :=
 (.seq (.reg [⟨(some 0), none, false, (.alloc [.nils, .nils, .nils, (.int .i64 0), (.int .i64 0), (.int .i64 0), (.int .i64 0), (.int .i64 0)])⟩])
 (.seq (.reg [⟨(some 1), none, false, (.bslice 1 1 [(.int .i64 0)] [(0, (.c (.int .i64 0)))])⟩, ⟨(some 2), none, false, (.bslice 1 2 [(.int .i64 0)] [(0, (.c (.int .i64 1))), (1, (.c (.int .i64 2)))])⟩, ⟨(some 3), none, false, (.bslice 1 1 [(.int .i64 0)] [(0, (.c (.int .i64 3)))])⟩, ⟨(some 4), none, false, (.build [.nils, .nils, .nils, (.int .i64 0), (.int .i64 0), (.int .i64 0), (.int .i64 0), (.int .i64 0)] [(0, 1, (.t 1)), (1, 1, (.t 2)), (2, 1, (.t 3)), (3, 1, (.c (.int .i64 1))), (4, 1, (.c (.int .i64 1))), (5, 1, (.c (.int .i64 2))), (6, 1, (.c (.int .i64 3))), (7, 1, (.c (.int .i64 8)))])⟩, ⟨none, none, false, (.st 8 (.t 0) (.t 4))⟩])
 .ret))
theorem l25 : ∃ c, f25.body = some c ∧ liteC prog f25.ntmps c = some q25 := ⟨_, rfl, by kernel_rfl⟩
theorem e25 : prog.funcs[25]? = some f25 := by kernel_rfl
theorem r25 : mapO (resOf prog) f25.results.toList = some [(.c 0 true 8)] := by kernel_rfl
theorem n25 : f25.ntmps = 5 := rfl
def T25 : TE := .fn q25 [(.c 0 true 8)] 5
theorem te25 : TEOK prog 25 T25 := te_fn e25 l25 rfl r25 n25

def q26 : RQ :=
 (.seq (.reg [⟨(some 1), none, false, (.box (.t 0))⟩, ⟨(some 2), none, false, (.mv (.c (.bool false)))⟩])
 (.seq (.reg [⟨(some 3), none, false, (.fa 0 (.t 1))⟩, ⟨(some 4), none, false, (.ld false 1 (.t 3))⟩, ⟨(some 5), none, false, (.bin .rem (.t 4) (.c (.int .u8 7)))⟩, ⟨(some 6), none, false, (.bin .leq (.t 5) (.c (.int .u8 4)))⟩, ⟨(some 2), none, false, (.mv (.t 6))⟩])
 .ret))
theorem l26 : ∃ c, f26.body = some c ∧ liteC prog f26.ntmps c = some q26 := ⟨_, rfl, by kernel_rfl⟩
theorem e26 : prog.funcs[26]? = some f26 := by kernel_rfl
theorem r26 : mapO (resOf prog) f26.results.toList = some [(.t 2)] := by kernel_rfl
theorem n26 : f26.ntmps = 7 := rfl
def T26 : TE := .fn q26 [(.t 2)] 7
theorem te26 : TEOK prog 26 T26 := te_fn e26 l26 rfl r26 n26

def q27 : RQ :=
 (.seq (.reg [⟨(some 2), none, false, (.box (.t 0))⟩, ⟨(some 3), none, false, (.box (.t 1))⟩, ⟨(some 4), none, false, (.alloc [(.int .i64 0), (.int .i64 0), (.int .i64 0), (.int .i64 0), (.int .i64 0), (.int .i64 0)])⟩, ⟨(some 5), none, false, (.mv (.c (.int .i64 0)))⟩])
 (.seq (.reg [⟨(some 12), none, true, (.ld true 8 (.t 2))⟩, ⟨(some 13), none, true, (.ld true 4 (.t 3))⟩, ⟨(some 14), none, false, (.cal 53 [(.t 12), (.t 13)])⟩, ⟨(some 11), none, false, (.mv (.t 14))⟩, ⟨(some 15), none, false, (.ext (.t 11) 0)⟩, ⟨(some 16), none, false, (.ext (.t 11) 1)⟩, ⟨(some 6), none, false, (.alloc [.nils, .nils, (.int .u64 0), (.int .i64 0), .nils, .nils, .nils, (.int .i64 0), (.int .i64 0), (.int .i64 0), (.int .i64 0), (.int .i64 0)])⟩, ⟨none, none, false, (.st 12 (.t 6) (.t 15))⟩, ⟨(some 7), none, false, (.mv (.t 16))⟩])
 (.seq (.seq (.reg [⟨(some 17), none, false, (.mv (.t 7))⟩, ⟨(some 18), none, false, (.bin .neq (.t 17) (.c (.int .i64 0)))⟩])
 (.cond (.t 18)
 (.seq (.reg [⟨(some 19), none, false, (.build [(.int .i64 0), (.int .i64 0), (.int .i64 0), (.int .i64 0), (.int .i64 0), (.int .i64 0)] [])⟩, ⟨(some 20), none, false, (.mv (.t 7))⟩, ⟨none, none, false, (.st 6 (.t 4) (.t 19))⟩, ⟨(some 5), none, false, (.mv (.t 20))⟩])
 .ret)
 .skip))
 (.seq (.reg [⟨(some 21), none, false, (.fa 0 (.t 6))⟩, ⟨(some 22), none, false, (.fa 0 (.t 21))⟩, ⟨(some 23), none, false, (.ld false 1 (.t 22))⟩, ⟨(some 24), none, false, (.len (.t 23))⟩, ⟨(some 25), none, false, (.build [(.int .i64 0), (.int .i64 0), (.int .i64 0), (.int .i64 0), (.int .i64 0), (.int .i64 0)] [(0, 1, (.t 24))])⟩, ⟨(some 8), none, false, (.alloc [(.int .i64 0), (.int .i64 0), (.int .i64 0), (.int .i64 0), (.int .i64 0), (.int .i64 0)])⟩, ⟨none, none, false, (.st 6 (.t 8) (.t 25))⟩])
 (.seq (.seq (.reg [⟨(some 26), none, false, (.fa 0 (.t 6))⟩, ⟨(some 27), none, false, (.fa 0 (.t 26))⟩, ⟨(some 28), none, false, (.ld false 1 (.t 27))⟩, ⟨(some 29), none, false, (.len (.t 28))⟩, ⟨(some 30), none, false, (.mv (.c (.int .i64 0)))⟩])
 (.block 0 (.loop (.seq (.reg [⟨(some 31), none, false, (.bin .lss (.t 30) (.t 29))⟩])
 (.seq (.cond (.t 31)
 .skip
 (.exit 0))
 (.seq (.block 1 (.seq (.reg [⟨(some 32), none, false, (.ias 6 (.t 28) (.t 30))⟩, ⟨(some 33), none, false, (.ld true 6 (.t 32))⟩, ⟨(some 10), none, false, (.alloc [(.int .i64 0), (.int .i64 0), (.int .i64 0), (.int .u8 0), (.int .u64 0), (.int .u64 0)])⟩, ⟨none, none, false, (.st 6 (.t 10) (.t 33))⟩])
 (.reg [⟨(some 34), none, false, (.fa 3 (.t 10))⟩, ⟨(some 35), none, false, (.ld false 1 (.t 34))⟩, ⟨(some 36), none, false, (.iaa 6 1 (.t 8) (.t 35))⟩, ⟨(some 37), none, false, (.ld false 1 (.t 36))⟩, ⟨(some 38), none, false, (.bin .add (.t 37) (.c (.int .i64 1)))⟩, ⟨(some 39), none, false, (.iaa 6 1 (.t 8) (.t 35))⟩, ⟨none, none, false, (.st 1 (.t 39) (.t 38))⟩])))
 (.reg [⟨(some 40), none, false, (.bin .add (.t 30) (.c (.int .i64 1)))⟩, ⟨(some 30), none, false, (.mv (.t 40))⟩])))))))
 (.seq (.reg [⟨(some 41), none, false, (.ld true 6 (.t 8))⟩, ⟨none, none, false, (.st 6 (.t 4) (.t 41))⟩, ⟨(some 5), none, false, (.mv (.c (.int .i64 0)))⟩])
 .ret))))))
theorem l27 : ∃ c, f27.body = some c ∧ liteC prog f27.ntmps c = some q27 := ⟨_, rfl, by kernel_rfl⟩
theorem e27 : prog.funcs[27]? = some f27 := by kernel_rfl
theorem r27 : mapO (resOf prog) f27.results.toList = some [(.c 4 true 6), (.t 5)] := by kernel_rfl
theorem n27 : f27.ntmps = 42 := rfl
def T27 : TE := .fn q27 [(.c 4 true 6), (.t 5)] 42
theorem te27 : TEOK prog 27 T27 := te_fn e27 l27 rfl r27 n27

def q28 : RQ :=
 (.seq (.reg [⟨(some 5), none, false, (.box (.t 0))⟩, ⟨(some 6), none, false, (.box (.t 1))⟩, ⟨(some 10), none, false, (.alloc [.nils, .nils, (.int .u64 0), (.int .i64 0)])⟩, ⟨(some 11), none, false, (.mv (.c (.int .i64 0)))⟩, ⟨(some 12), none, false, (.mv (.c (.int .i64 0)))⟩])
 (.seq (.reg [⟨(some 17), none, true, (.ld true 8 (.t 5))⟩, ⟨(some 18), none, true, (.ld true 4 (.t 6))⟩, ⟨(some 19), none, false, (.cal 53 [(.t 17), (.t 18)])⟩, ⟨(some 16), none, false, (.mv (.t 19))⟩, ⟨(some 20), none, false, (.ext (.t 16) 0)⟩, ⟨(some 21), none, false, (.ext (.t 16) 1)⟩, ⟨(some 13), none, false, (.alloc [.nils, .nils, (.int .u64 0), (.int .i64 0), .nils, .nils, .nils, (.int .i64 0), (.int .i64 0), (.int .i64 0), (.int .i64 0), (.int .i64 0)])⟩, ⟨none, none, false, (.st 12 (.t 13) (.t 20))⟩, ⟨(some 14), none, false, (.mv (.t 21))⟩])
 (.seq (.seq (.reg [⟨(some 22), none, false, (.mv (.t 14))⟩, ⟨(some 23), none, false, (.bin .neq (.t 22) (.c (.int .i64 0)))⟩])
 (.cond (.t 23)
 (.seq (.reg [⟨(some 24), none, false, (.build [.nils, .nils, (.int .u64 0), (.int .i64 0)] [])⟩, ⟨(some 25), none, false, (.mv (.t 14))⟩, ⟨none, none, false, (.st 4 (.t 10) (.t 24))⟩, ⟨(some 11), none, false, (.mv (.c (.int .i64 0)))⟩, ⟨(some 12), none, false, (.mv (.t 25))⟩])
 .ret)
 .skip))
 (.seq (.seq (.reg [⟨(some 26), none, true, (.ld true 12 (.t 13))⟩, ⟨(some 27), none, true, (.mv (.t 2))⟩, ⟨(some 28), none, true, (.mv (.t 3))⟩, ⟨(some 29), none, false, (.cal 54 [(.t 26), (.t 27), (.t 28)])⟩, ⟨(some 30), none, false, (.not (.t 29))⟩, ⟨(some 31), none, false, (.mv (.t 30))⟩, ⟨(some 32), (some (31, false)), false, (.mv (.t 4))⟩, ⟨(some 33), (some (31, false)), false, (.bin .gtr (.t 32) (.c (.int .u64 4611686018427387904)))⟩, ⟨(some 34), none, false, (.pick (.t 31) (.c (.bool true)) (.t 33))⟩])
 (.cond (.t 34)
 (.seq (.reg [⟨(some 35), none, false, (.build [.nils, .nils, (.int .u64 0), (.int .i64 0)] [])⟩, ⟨none, none, false, (.st 4 (.t 10) (.t 35))⟩, ⟨(some 11), none, false, (.mv (.c (.int .i64 0)))⟩, ⟨(some 12), none, false, (.mv (.c (.int .i64 2)))⟩])
 .ret)
 .skip))
 (.seq (.seq (.reg [⟨(some 36), none, false, (.fa 0 (.t 13))⟩, ⟨(some 37), none, false, (.fa 0 (.t 36))⟩, ⟨(some 38), none, false, (.ld false 1 (.t 37))⟩, ⟨(some 39), none, false, (.len (.t 38))⟩, ⟨(some 40), none, false, (.bin .eql (.t 39) (.c (.int .i64 64)))⟩])
 (.cond (.t 40)
 (.seq (.reg [⟨(some 41), none, false, (.build [.nils, .nils, (.int .u64 0), (.int .i64 0)] [])⟩, ⟨none, none, false, (.st 4 (.t 10) (.t 41))⟩, ⟨(some 11), none, false, (.mv (.c (.int .i64 0)))⟩, ⟨(some 12), none, false, (.mv (.c (.int .i64 4)))⟩])
 .ret)
 .skip))
 (.seq (.seq (.reg [⟨(some 42), none, false, (.fa 0 (.t 13))⟩, ⟨(some 43), none, false, (.fa 1 (.t 42))⟩, ⟨(some 44), none, false, (.ld false 1 (.t 43))⟩, ⟨(some 45), none, false, (.len (.t 44))⟩, ⟨(some 46), none, false, (.fa 5 (.t 5))⟩, ⟨(some 47), none, false, (.ld false 1 (.t 46))⟩, ⟨(some 48), none, false, (.bin .eql (.t 45) (.t 47))⟩])
 (.cond (.t 48)
 (.seq (.reg [⟨(some 49), none, false, (.build [.nils, .nils, (.int .u64 0), (.int .i64 0)] [])⟩, ⟨none, none, false, (.st 4 (.t 10) (.t 49))⟩, ⟨(some 11), none, false, (.mv (.c (.int .i64 0)))⟩, ⟨(some 12), none, false, (.mv (.c (.int .i64 9)))⟩])
 .ret)
 .skip))
 (.seq (.reg [⟨(some 51), none, false, (.fa 0 (.t 13))⟩, ⟨(some 52), none, false, (.fa 2 (.t 51))⟩, ⟨(some 53), none, true, (.ld true 2 (.t 52))⟩, ⟨(some 54), none, false, (.fa 7 (.t 5))⟩, ⟨(some 55), none, true, (.ld false 1 (.t 54))⟩, ⟨(some 56), none, false, (.fa 6 (.t 5))⟩, ⟨(some 57), none, true, (.ld false 1 (.t 56))⟩, ⟨(some 58), none, true, (.mv (.t 4))⟩, ⟨(some 59), none, false, (.cal 19 [(.t 53), (.t 55), (.t 57), (.t 58)])⟩, ⟨(some 50), none, false, (.mv (.t 59))⟩, ⟨(some 60), none, false, (.ext (.t 50) 0)⟩, ⟨(some 61), none, false, (.ext (.t 50) 1)⟩, ⟨(some 62), none, false, (.fa 0 (.t 13))⟩, ⟨(some 63), none, false, (.fa 2 (.t 62))⟩, ⟨none, none, false, (.st 2 (.t 63) (.t 60))⟩, ⟨(some 14), none, false, (.mv (.t 61))⟩])
 (.seq (.seq (.reg [⟨(some 64), none, false, (.mv (.t 14))⟩, ⟨(some 65), none, false, (.bin .neq (.t 64) (.c (.int .i64 0)))⟩])
 (.cond (.t 65)
 (.seq (.reg [⟨(some 66), none, false, (.build [.nils, .nils, (.int .u64 0), (.int .i64 0)] [])⟩, ⟨(some 67), none, false, (.mv (.t 14))⟩, ⟨none, none, false, (.st 4 (.t 10) (.t 66))⟩, ⟨(some 11), none, false, (.mv (.c (.int .i64 0)))⟩, ⟨(some 12), none, false, (.mv (.t 67))⟩])
 .ret)
 .skip))
 (.seq (.reg [⟨(some 69), none, false, (.fa 0 (.t 13))⟩, ⟨(some 70), none, false, (.fa 0 (.t 69))⟩, ⟨(some 71), none, false, (.ld false 1 (.t 70))⟩, ⟨(some 72), none, false, (.len (.t 71))⟩, ⟨(some 73), none, true, (.bin .add (.t 72) (.c (.int .i64 1)))⟩, ⟨(some 74), none, true, (.mv (.t 2))⟩, ⟨(some 75), none, true, (.mv (.t 3))⟩, ⟨(some 76), none, true, (.mv (.t 4))⟩, ⟨(some 77), none, false, (.cal 16 [(.t 73), (.t 74), (.t 75), (.t 76)])⟩, ⟨(some 68), none, false, (.mv (.t 77))⟩, ⟨(some 78), none, false, (.ext (.t 68) 0)⟩, ⟨(some 79), none, false, (.ext (.t 68) 1)⟩, ⟨(some 15), none, false, (.alloc [(.int .i64 0), (.int .i64 0), (.int .i64 0), (.int .u8 0), (.int .u64 0), (.int .u64 0)])⟩, ⟨none, none, false, (.st 6 (.t 15) (.t 78))⟩, ⟨(some 14), none, false, (.mv (.t 79))⟩])
 (.seq (.seq (.reg [⟨(some 80), none, false, (.mv (.t 14))⟩, ⟨(some 81), none, false, (.bin .neq (.t 80) (.c (.int .i64 0)))⟩])
 (.cond (.t 81)
 (.seq (.reg [⟨(some 82), none, false, (.build [.nils, .nils, (.int .u64 0), (.int .i64 0)] [])⟩, ⟨(some 83), none, false, (.mv (.t 14))⟩, ⟨none, none, false, (.st 4 (.t 10) (.t 82))⟩, ⟨(some 11), none, false, (.mv (.c (.int .i64 0)))⟩, ⟨(some 12), none, false, (.mv (.t 83))⟩])
 .ret)
 .skip))
 (.seq (.reg [⟨(some 84), none, false, (.fa 0 (.t 13))⟩, ⟨(some 85), none, false, (.fa 0 (.t 84))⟩, ⟨(some 86), none, false, (.ld false 1 (.t 85))⟩, ⟨(some 87), none, false, (.ld true 6 (.t 15))⟩, ⟨(some 88), none, true, (.bslice 6 1 [(.int .i64 0), (.int .i64 0), (.int .i64 0), (.int .u8 0), (.int .u64 0), (.int .u64 0)] [(0, (.t 87))])⟩, ⟨(some 89), none, false, (.app 6 48 [(.int .i64 0), (.int .i64 0), (.int .i64 0), (.int .u8 0), (.int .u64 0), (.int .u64 0)] (.t 86) (.t 88))⟩, ⟨(some 90), none, false, (.fa 0 (.t 13))⟩, ⟨(some 91), none, false, (.fa 0 (.t 90))⟩, ⟨none, none, false, (.st 1 (.t 91) (.t 89))⟩])
 (.seq (.reg [⟨(some 92), none, false, (.fa 0 (.t 13))⟩, ⟨(some 93), none, false, (.fa 1 (.t 92))⟩, ⟨(some 94), none, false, (.ld false 1 (.t 93))⟩, ⟨(some 95), none, false, (.fa 0 (.t 15))⟩, ⟨(some 96), none, false, (.ld false 1 (.t 95))⟩, ⟨(some 97), none, true, (.bslice 1 1 [(.int .i64 0)] [(0, (.t 96))])⟩, ⟨(some 98), none, false, (.app 1 8 [(.int .i64 0)] (.t 94) (.t 97))⟩, ⟨(some 99), none, false, (.fa 0 (.t 13))⟩, ⟨(some 100), none, false, (.fa 1 (.t 99))⟩, ⟨none, none, false, (.st 1 (.t 100) (.t 98))⟩])
 (.seq (.drw [(false, ⟨(some 101), none, false, (.fa 0 (.t 13))⟩), (false, ⟨(some 102), none, false, (.ld true 4 (.t 101))⟩), (true, ⟨(some 103), none, false, (.fa 0 (.t 15))⟩), (true, ⟨(some 104), none, false, (.ld false 1 (.t 103))⟩), (false, ⟨none, none, false, (.st 4 (.t 10) (.t 102))⟩), (false, ⟨(some 11), none, false, (.mv (.t 104))⟩), (false, ⟨(some 12), none, false, (.mv (.c (.int .i64 0)))⟩)] [])
 .ret)))))))))))))
theorem l28 : ∃ c, f28.body = some c ∧ liteC prog f28.ntmps c = some q28 := ⟨_, rfl, by kernel_rfl⟩
theorem e28 : prog.funcs[28]? = some f28 := by kernel_rfl
theorem r28 : mapO (resOf prog) f28.results.toList = some [(.c 10 true 4), (.t 11), (.t 12)] := by kernel_rfl
theorem n28 : f28.ntmps = 105 := rfl
def T28 : TE := .fn q28 [(.c 10 true 4), (.t 11), (.t 12)] 105
theorem te28 : TEOK prog 28 T28 := te_fn e28 l28 rfl r28 n28

def q29 : RQ :=
 (.seq (.reg [⟨(some 2), none, false, (.box (.t 0))⟩, ⟨(some 3), none, false, (.box (.t 1))⟩, ⟨(some 4), none, false, (.mv (.c (.int .i64 0)))⟩])
 (.seq (.reg [⟨(some 5), none, false, (.ld true 4 (.t 3))⟩, ⟨(some 6), none, false, (.ld true 8 (.t 2))⟩, ⟨(some 7), none, true, (.build [.nils, .nils, (.int .u64 0), (.int .i64 0), .nils, .nils, .nils, (.int .i64 0), (.int .i64 0), (.int .i64 0), (.int .i64 0), (.int .i64 0)] [(0, 4, (.t 5)), (4, 8, (.t 6))])⟩, ⟨(some 8), none, false, (.cal 55 [(.t 7)])⟩, ⟨(some 4), none, false, (.mv (.t 8))⟩])
 .ret))
theorem l29 : ∃ c, f29.body = some c ∧ liteC prog f29.ntmps c = some q29 := ⟨_, rfl, by kernel_rfl⟩
theorem e29 : prog.funcs[29]? = some f29 := by kernel_rfl
theorem r29 : mapO (resOf prog) f29.results.toList = some [(.t 4)] := by kernel_rfl
theorem n29 : f29.ntmps = 9 := rfl
def T29 : TE := .fn q29 [(.t 4)] 9
theorem te29 : TEOK prog 29 T29 := te_fn e29 l29 rfl r29 n29

def q30 : RQ :=
 (.seq (.reg [⟨(some 8), none, false, (.alloc [(.int .i64 0), (.int .i64 0), (.int .i64 0), (.int .u8 0), (.int .u64 0), (.int .u64 0)])⟩, ⟨(some 9), none, false, (.mv (.c (.int .i64 0)))⟩])
 (.seq (.reg [⟨(some 11), none, false, (.mv (.t 0))⟩, ⟨(some 12), none, false, (.mv (.t 1))⟩, ⟨(some 13), none, false, (.mv (.t 2))⟩, ⟨(some 14), none, false, (.mv (.t 3))⟩, ⟨(some 15), none, false, (.build [(.int .i64 0), (.int .i64 0), (.int .i64 0), (.int .u8 0), (.int .u64 0), (.int .u64 0)] [(0, 1, (.t 11)), (1, 1, (.t 12)), (2, 1, (.t 13)), (3, 1, (.c (.int .u8 1))), (4, 1, (.t 14))])⟩, ⟨(some 10), none, false, (.alloc [(.int .i64 0), (.int .i64 0), (.int .i64 0), (.int .u8 0), (.int .u64 0), (.int .u64 0)])⟩, ⟨none, none, false, (.st 6 (.t 10) (.t 15))⟩])
 (.seq (.seq (.reg [⟨(some 16), none, true, (.ld true 6 (.t 10))⟩, ⟨(some 17), none, false, (.cal 56 [(.t 16)])⟩, ⟨(some 18), none, false, (.not (.t 17))⟩])
 (.cond (.t 18)
 (.seq (.reg [⟨(some 19), none, false, (.build [(.int .i64 0), (.int .i64 0), (.int .i64 0), (.int .u8 0), (.int .u64 0), (.int .u64 0)] [])⟩, ⟨none, none, false, (.st 6 (.t 8) (.t 19))⟩, ⟨(some 9), none, false, (.mv (.c (.int .i64 2)))⟩])
 .ret)
 .skip))
 (.seq (.reg [⟨(some 20), none, false, (.ld true 6 (.t 10))⟩, ⟨none, none, false, (.st 6 (.t 8) (.t 20))⟩, ⟨(some 9), none, false, (.mv (.c (.int .i64 0)))⟩])
 .ret))))
theorem l30 : ∃ c, f30.body = some c ∧ liteC prog f30.ntmps c = some q30 := ⟨_, rfl, by kernel_rfl⟩
theorem e30 : prog.funcs[30]? = some f30 := by kernel_rfl
theorem r30 : mapO (resOf prog) f30.results.toList = some [(.c 8 true 6), (.t 9)] := by kernel_rfl
theorem n30 : f30.ntmps = 21 := rfl
def T30 : TE := .fn q30 [(.c 8 true 6), (.t 9)] 21
theorem te30 : TEOK prog 30 T30 := te_fn e30 l30 rfl r30 n30

def q31 : RQ :=
 (.seq (.reg [⟨(some 1), none, false, (.box (.t 0))⟩, ⟨(some 2), none, false, (.mv (.c (.int .i64 0)))⟩])
 (.seq (.seq (.reg [⟨(some 3), none, false, (.fa 0 (.t 1))⟩, ⟨(some 4), none, false, (.ld false 1 (.t 3))⟩, ⟨(some 5), none, true, (.bslice 1 1 [(.int .i64 0)] [(0, (.t 4))])⟩, ⟨(some 6), none, false, (.cal 50 [(.c (.int .i64 1)), (.c (.int .i64 64)), (.t 5)])⟩, ⟨(some 7), none, false, (.not (.t 6))⟩, ⟨(some 8), none, false, (.mv (.t 7))⟩, ⟨(some 9), (some (8, false)), false, (.fa 1 (.t 1))⟩, ⟨(some 10), (some (8, false)), false, (.ld false 1 (.t 9))⟩, ⟨(some 11), (some (8, false)), false, (.fa 2 (.t 1))⟩, ⟨(some 12), (some (8, false)), false, (.ld false 1 (.t 11))⟩, ⟨(some 13), (some (8, false)), true, (.bslice 1 2 [(.int .i64 0)] [(0, (.t 10)), (1, (.t 12))])⟩, ⟨(some 14), (some (8, false)), false, (.cal 50 [(.c (.int .i64 0)), (.c (.int .i64 2)), (.t 13)])⟩, ⟨(some 15), (some (8, false)), false, (.not (.t 14))⟩, ⟨(some 16), none, false, (.pick (.t 8) (.c (.bool true)) (.t 15))⟩, ⟨(some 17), none, false, (.mv (.t 16))⟩, ⟨(some 18), (some (17, false)), false, (.fa 3 (.t 1))⟩, ⟨(some 19), (some (17, false)), true, (.ld false 1 (.t 18))⟩, ⟨(some 20), (some (17, false)), false, (.cal 47 [(.t 19)])⟩, ⟨(some 21), (some (17, false)), false, (.not (.t 20))⟩, ⟨(some 22), none, false, (.pick (.t 17) (.c (.bool true)) (.t 21))⟩, ⟨(some 23), none, false, (.mv (.t 22))⟩, ⟨(some 24), (some (23, false)), false, (.fa 4 (.t 1))⟩, ⟨(some 25), (some (23, false)), false, (.ld false 1 (.t 24))⟩, ⟨(some 26), (some (23, false)), false, (.bin .gtr (.t 25) (.c (.int .u64 4611686018427387904)))⟩, ⟨(some 27), none, false, (.pick (.t 23) (.c (.bool true)) (.t 26))⟩, ⟨(some 28), none, false, (.mv (.t 27))⟩, ⟨(some 29), (some (28, false)), true, (.ld true 6 (.t 1))⟩, ⟨(some 30), (some (28, false)), false, (.cal 57 [(.t 29)])⟩, ⟨(some 31), (some (28, false)), false, (.not (.t 30))⟩, ⟨(some 32), none, false, (.pick (.t 28) (.c (.bool true)) (.t 31))⟩])
 (.cond (.t 32)
 (.seq (.reg [⟨(some 2), none, false, (.mv (.c (.int .i64 8)))⟩])
 .ret)
 .skip))
 (.seq (.reg [⟨(some 2), none, false, (.mv (.c (.int .i64 0)))⟩])
 .ret)))
theorem l31 : ∃ c, f31.body = some c ∧ liteC prog f31.ntmps c = some q31 := ⟨_, rfl, by kernel_rfl⟩
theorem e31 : prog.funcs[31]? = some f31 := by kernel_rfl
theorem r31 : mapO (resOf prog) f31.results.toList = some [(.t 2)] := by kernel_rfl
theorem n31 : f31.ntmps = 33 := rfl
def T31 : TE := .fn q31 [(.t 2)] 33
theorem te31 : TEOK prog 31 T31 := te_fn e31 l31 rfl r31 n31

def q32 : RQ :=
 (.seq (.reg [⟨(some 1), none, false, (.box (.t 0))⟩, ⟨(some 2), none, false, (.mv (.c (.int .i64 0)))⟩])
 (.seq (.seq (.reg [⟨(some 3), none, true, (.ld true 6 (.t 1))⟩, ⟨(some 4), none, false, (.cal 56 [(.t 3)])⟩, ⟨(some 5), none, false, (.not (.t 4))⟩])
 (.cond (.t 5)
 (.seq (.reg [⟨(some 2), none, false, (.mv (.c (.int .i64 8)))⟩])
 .ret)
 .skip))
 (.seq (.reg [⟨(some 2), none, false, (.mv (.c (.int .i64 0)))⟩])
 .ret)))
theorem l32 : ∃ c, f32.body = some c ∧ liteC prog f32.ntmps c = some q32 := ⟨_, rfl, by kernel_rfl⟩
theorem e32 : prog.funcs[32]? = some f32 := by kernel_rfl
theorem r32 : mapO (resOf prog) f32.results.toList = some [(.t 2)] := by kernel_rfl
theorem n32 : f32.ntmps = 6 := rfl
def T32 : TE := .fn q32 [(.t 2)] 6
theorem te32 : TEOK prog 32 T32 := te_fn e32 l32 rfl r32 n32

def q33 : RQ :=
 (.seq (.reg [⟨(some 3), none, false, (.box (.t 0))⟩, ⟨(some 6), none, false, (.alloc [(.int .i64 0), (.int .i64 0), (.int .i64 0), (.int .u8 0), (.int .u64 0), (.int .u64 0)])⟩, ⟨(some 7), none, false, (.mv (.c (.int .i64 0)))⟩])
 (.seq (.seq (.reg [⟨(some 8), none, true, (.ld true 6 (.t 3))⟩, ⟨(some 9), none, false, (.cal 56 [(.t 8)])⟩, ⟨(some 10), none, false, (.not (.t 9))⟩])
 (.cond (.t 10)
 (.seq (.reg [⟨(some 11), none, false, (.build [(.int .i64 0), (.int .i64 0), (.int .i64 0), (.int .u8 0), (.int .u64 0), (.int .u64 0)] [])⟩, ⟨none, none, false, (.st 6 (.t 6) (.t 11))⟩, ⟨(some 7), none, false, (.mv (.c (.int .i64 8)))⟩])
 .ret)
 .skip))
 (.seq (.seq (.reg [⟨(some 12), none, false, (.mv (.t 1))⟩, ⟨(some 13), none, false, (.bin .lss (.t 12) (.c (.int .u8 1)))⟩, ⟨(some 14), none, false, (.mv (.t 13))⟩, ⟨(some 15), (some (14, false)), false, (.mv (.t 1))⟩, ⟨(some 16), (some (14, false)), false, (.bin .gtr (.t 15) (.c (.int .u8 5)))⟩, ⟨(some 17), none, false, (.pick (.t 14) (.c (.bool true)) (.t 16))⟩, ⟨(some 18), none, false, (.mv (.t 17))⟩, ⟨(some 19), (some (18, false)), false, (.mv (.t 2))⟩, ⟨(some 20), (some (18, false)), false, (.bin .gtr (.t 19) (.c (.int .u64 4611686018427387904)))⟩, ⟨(some 21), none, false, (.pick (.t 18) (.c (.bool true)) (.t 20))⟩, ⟨(some 22), none, false, (.mv (.t 21))⟩, ⟨(some 23), (some (22, false)), false, (.mv (.t 1))⟩, ⟨(some 24), (some (22, false)), false, (.bin .eql (.t 23) (.c (.int .u8 4)))⟩, ⟨(some 25), (some (22, false)), false, (.mv (.t 24))⟩, ⟨(some 26), (some (25, true)), false, (.mv (.t 2))⟩, ⟨(some 27), (some (25, true)), false, (.bin .eql (.t 26) (.c (.int .u64 0)))⟩, ⟨(some 28), (some (22, false)), false, (.pick (.t 25) (.t 27) (.c (.bool false)))⟩, ⟨(some 29), none, false, (.pick (.t 22) (.c (.bool true)) (.t 28))⟩])
 (.cond (.t 29)
 (.seq (.reg [⟨(some 30), none, false, (.build [(.int .i64 0), (.int .i64 0), (.int .i64 0), (.int .u8 0), (.int .u64 0), (.int .u64 0)] [])⟩, ⟨none, none, false, (.st 6 (.t 6) (.t 30))⟩, ⟨(some 7), none, false, (.mv (.c (.int .i64 2)))⟩])
 .ret)
 .skip))
 (.seq (.seq (.reg [⟨(some 31), none, false, (.fa 3 (.t 3))⟩, ⟨(some 32), none, true, (.ld false 1 (.t 31))⟩, ⟨(some 33), none, true, (.mv (.t 1))⟩, ⟨(some 34), none, false, (.cal 58 [(.t 32), (.t 33)])⟩, ⟨(some 35), none, false, (.not (.t 34))⟩])
 (.cond (.t 35)
 (.seq (.reg [⟨(some 36), none, false, (.build [(.int .i64 0), (.int .i64 0), (.int .i64 0), (.int .u8 0), (.int .u64 0), (.int .u64 0)] [])⟩, ⟨none, none, false, (.st 6 (.t 6) (.t 36))⟩, ⟨(some 7), none, false, (.mv (.c (.int .i64 150)))⟩])
 .ret)
 .skip))
 (.seq (.reg [⟨(some 37), none, false, (.mv (.t 1))⟩, ⟨(some 38), none, false, (.fa 3 (.t 3))⟩, ⟨none, none, false, (.st 1 (.t 38) (.t 37))⟩])
 (.seq (.seq (.reg [⟨(some 39), none, false, (.mv (.t 1))⟩, ⟨(some 40), none, false, (.bin .eql (.t 39) (.c (.int .u8 4)))⟩])
 (.cond (.t 40)
 (.reg [⟨(some 41), none, false, (.mv (.t 2))⟩, ⟨(some 42), none, false, (.fa 5 (.t 3))⟩, ⟨none, none, false, (.st 1 (.t 42) (.t 41))⟩])
 .skip))
 (.seq (.reg [⟨(some 43), none, false, (.ld true 6 (.t 3))⟩, ⟨none, none, false, (.st 6 (.t 6) (.t 43))⟩, ⟨(some 7), none, false, (.mv (.c (.int .i64 0)))⟩])
 .ret)))))))
theorem l33 : ∃ c, f33.body = some c ∧ liteC prog f33.ntmps c = some q33 := ⟨_, rfl, by kernel_rfl⟩
theorem e33 : prog.funcs[33]? = some f33 := by kernel_rfl
theorem r33 : mapO (resOf prog) f33.results.toList = some [(.c 6 true 6), (.t 7)] := by kernel_rfl
theorem n33 : f33.ntmps = 44 := rfl
def T33 : TE := .fn q33 [(.c 6 true 6), (.t 7)] 44
theorem te33 : TEOK prog 33 T33 := te_fn e33 l33 rfl r33 n33

def q34 : RQ :=
 (.seq (.reg [⟨(some 4), none, false, (.box (.t 0))⟩, ⟨(some 8), none, false, (.alloc [(.int .u64 0), (.int .i64 0)])⟩, ⟨(some 9), none, false, (.mv (.c (.int .i64 0)))⟩])
 (.seq (.reg [⟨(some 12), none, true, (.ld true 2 (.t 4))⟩, ⟨(some 13), none, true, (.mv (.t 1))⟩, ⟨(some 14), none, true, (.mv (.t 2))⟩, ⟨(some 15), none, true, (.mv (.t 3))⟩, ⟨(some 16), none, false, (.cal 59 [(.t 12), (.t 13), (.t 14), (.t 15)])⟩, ⟨(some 10), none, false, (.mv (.t 16))⟩])
 (.seq (.seq (.reg [⟨(some 17), none, false, (.mv (.t 10))⟩, ⟨(some 18), none, false, (.bin .neq (.t 17) (.c (.int .i64 0)))⟩])
 (.cond (.t 18)
 (.seq (.reg [⟨(some 19), none, false, (.build [(.int .u64 0), (.int .i64 0)] [])⟩, ⟨(some 20), none, false, (.mv (.t 10))⟩, ⟨none, none, false, (.st 2 (.t 8) (.t 19))⟩, ⟨(some 9), none, false, (.mv (.t 20))⟩])
 .ret)
 .skip))
 (.seq (.reg [⟨(some 21), none, true, (.ld true 2 (.t 4))⟩, ⟨(some 22), none, true, (.mv (.t 1))⟩, ⟨(some 23), none, true, (.mv (.t 3))⟩, ⟨(some 24), none, false, (.cal 60 [(.t 21), (.t 22), (.t 23)])⟩, ⟨(some 11), none, false, (.mv (.t 24))⟩])
 (.seq (.seq (.reg [⟨(some 25), none, false, (.mv (.t 11))⟩, ⟨(some 26), none, false, (.mv (.t 2))⟩, ⟨(some 27), none, false, (.bin .eql (.t 25) (.t 26))⟩])
 (.cond (.t 27)
 (.seq (.reg [⟨(some 28), none, false, (.build [(.int .u64 0), (.int .i64 0)] [])⟩, ⟨none, none, false, (.st 2 (.t 8) (.t 28))⟩, ⟨(some 9), none, false, (.mv (.c (.int .i64 160)))⟩])
 .ret)
 .skip))
 (.seq (.reg [⟨(some 29), none, false, (.mv (.t 3))⟩, ⟨(some 30), none, false, (.mv (.t 1))⟩, ⟨(some 31), none, false, (.cv .u64 (.t 30))⟩, ⟨(some 32), none, false, (.bin .quo (.t 29) (.t 31))⟩, ⟨(some 33), none, false, (.mv (.t 11))⟩, ⟨(some 34), none, false, (.bin .add (.t 33) (.c (.int .i64 1)))⟩, ⟨(some 35), none, false, (.build [(.int .u64 0), (.int .i64 0)] [(0, 1, (.t 32)), (1, 1, (.t 34))])⟩, ⟨none, none, false, (.st 2 (.t 8) (.t 35))⟩, ⟨(some 9), none, false, (.mv (.c (.int .i64 0)))⟩])
 .ret))))))
theorem l34 : ∃ c, f34.body = some c ∧ liteC prog f34.ntmps c = some q34 := ⟨_, rfl, by kernel_rfl⟩
theorem e34 : prog.funcs[34]? = some f34 := by kernel_rfl
theorem r34 : mapO (resOf prog) f34.results.toList = some [(.c 8 true 2), (.t 9)] := by kernel_rfl
theorem n34 : f34.ntmps = 36 := rfl
def T34 : TE := .fn q34 [(.c 8 true 2), (.t 9)] 36
theorem te34 : TEOK prog 34 T34 := te_fn e34 l34 rfl r34 n34

def q35 : RQ :=
 (.seq (.reg [⟨(some 3), none, false, (.box (.t 0))⟩, ⟨(some 6), none, false, (.mv (.c (.int .i64 0)))⟩])
 (.seq (.seq (.reg [⟨(some 7), none, false, (.mv (.t 1))⟩, ⟨(some 8), none, false, (.bin .lss (.t 7) (.c (.int .i64 1)))⟩, ⟨(some 9), none, false, (.mv (.t 8))⟩, ⟨(some 10), (some (9, false)), false, (.mv (.t 1))⟩, ⟨(some 11), (some (9, false)), false, (.bin .gtr (.t 10) (.c (.int .i64 64)))⟩, ⟨(some 12), none, false, (.pick (.t 9) (.c (.bool true)) (.t 11))⟩, ⟨(some 13), none, false, (.mv (.t 12))⟩, ⟨(some 14), (some (13, false)), false, (.mv (.t 2))⟩, ⟨(some 15), (some (13, false)), false, (.bin .lss (.t 14) (.c (.int .i64 1)))⟩, ⟨(some 16), none, false, (.pick (.t 13) (.c (.bool true)) (.t 15))⟩, ⟨(some 17), none, false, (.mv (.t 16))⟩, ⟨(some 18), (some (17, false)), false, (.mv (.t 2))⟩, ⟨(some 19), (some (17, false)), false, (.bin .gtr (.t 18) (.c (.int .i64 16)))⟩, ⟨(some 20), none, false, (.pick (.t 17) (.c (.bool true)) (.t 19))⟩])
 (.cond (.t 20)
 (.seq (.reg [⟨(some 6), none, false, (.mv (.c (.int .i64 2)))⟩])
 .ret)
 .skip))
 (.seq (.seq (.reg [⟨(some 21), none, false, (.fa 0 (.t 3))⟩, ⟨(some 22), none, false, (.ld false 1 (.t 21))⟩, ⟨(some 23), none, false, (.bin .gtr (.t 22) (.c (.int .u64 4611686018427387904)))⟩, ⟨(some 24), none, false, (.mv (.t 23))⟩, ⟨(some 25), (some (24, false)), false, (.fa 1 (.t 3))⟩, ⟨(some 26), (some (24, false)), false, (.ld false 1 (.t 25))⟩, ⟨(some 27), (some (24, false)), false, (.bin .lss (.t 26) (.c (.int .i64 0)))⟩, ⟨(some 28), none, false, (.pick (.t 24) (.c (.bool true)) (.t 27))⟩, ⟨(some 29), none, false, (.mv (.t 28))⟩, ⟨(some 30), (some (29, false)), false, (.fa 1 (.t 3))⟩, ⟨(some 31), (some (29, false)), false, (.ld false 1 (.t 30))⟩, ⟨(some 32), (some (29, false)), false, (.mv (.t 2))⟩, ⟨(some 33), (some (29, false)), false, (.bin .gtr (.t 31) (.t 32))⟩, ⟨(some 34), none, false, (.pick (.t 29) (.c (.bool true)) (.t 33))⟩])
 (.cond (.t 34)
 (.seq (.reg [⟨(some 6), none, false, (.mv (.c (.int .i64 8)))⟩])
 .ret)
 .skip))
 (.seq (.reg [⟨(some 6), none, false, (.mv (.c (.int .i64 0)))⟩])
 .ret))))
theorem l35 : ∃ c, f35.body = some c ∧ liteC prog f35.ntmps c = some q35 := ⟨_, rfl, by kernel_rfl⟩
theorem e35 : prog.funcs[35]? = some f35 := by kernel_rfl
theorem r35 : mapO (resOf prog) f35.results.toList = some [(.t 6)] := by kernel_rfl
theorem n35 : f35.ntmps = 35 := rfl
def T35 : TE := .fn q35 [(.t 6)] 35
theorem te35 : TEOK prog 35 T35 := te_fn e35 l35 rfl r35 n35

def q36 : RQ :=
 (.seq (.reg [⟨(some 4), none, false, (.box (.t 0))⟩, ⟨(some 8), none, false, (.mv (.c (.int .i64 0)))⟩, ⟨(some 9), none, false, (.mv (.c (.int .i64 0)))⟩])
 (.seq (.reg [⟨(some 11), none, true, (.ld true 2 (.t 4))⟩, ⟨(some 12), none, true, (.mv (.t 1))⟩, ⟨(some 13), none, true, (.mv (.t 2))⟩, ⟨(some 14), none, true, (.mv (.t 3))⟩, ⟨(some 15), none, false, (.cal 59 [(.t 11), (.t 12), (.t 13), (.t 14)])⟩, ⟨(some 10), none, false, (.mv (.t 15))⟩])
 (.seq (.seq (.reg [⟨(some 16), none, false, (.mv (.t 10))⟩, ⟨(some 17), none, false, (.bin .neq (.t 16) (.c (.int .i64 0)))⟩])
 (.cond (.t 17)
 (.seq (.reg [⟨(some 18), none, false, (.mv (.t 10))⟩, ⟨(some 8), none, false, (.mv (.c (.int .i64 0)))⟩, ⟨(some 9), none, false, (.mv (.t 18))⟩])
 .ret)
 .skip))
 (.seq (.reg [⟨(some 19), none, false, (.mv (.t 2))⟩, ⟨(some 20), none, true, (.ld true 2 (.t 4))⟩, ⟨(some 21), none, true, (.mv (.t 1))⟩, ⟨(some 22), none, true, (.mv (.t 3))⟩, ⟨(some 23), none, false, (.cal 60 [(.t 20), (.t 21), (.t 22)])⟩, ⟨(some 24), none, false, (.bin .sub (.t 19) (.t 23))⟩, ⟨(some 8), none, false, (.mv (.t 24))⟩, ⟨(some 9), none, false, (.mv (.c (.int .i64 0)))⟩])
 .ret))))
theorem l36 : ∃ c, f36.body = some c ∧ liteC prog f36.ntmps c = some q36 := ⟨_, rfl, by kernel_rfl⟩
theorem e36 : prog.funcs[36]? = some f36 := by kernel_rfl
theorem r36 : mapO (resOf prog) f36.results.toList = some [(.t 8), (.t 9)] := by kernel_rfl
theorem n36 : f36.ntmps = 25 := rfl
def T36 : TE := .fn q36 [(.t 8), (.t 9)] 25
theorem te36 : TEOK prog 36 T36 := te_fn e36 l36 rfl r36 n36

def q37 : RQ :=
 (.seq (.reg [⟨(some 1), none, false, (.box (.t 0))⟩, ⟨(some 2), none, false, (.alloc [.nils, .nils, (.int .u64 0), (.int .i64 0)])⟩])
 (.seq (.reg [⟨(some 3), none, false, (.fa 0 (.t 1))⟩, ⟨(some 4), none, true, (.ld false 1 (.t 3))⟩, ⟨(some 5), none, false, (.app 6 48 [(.int .i64 0), (.int .i64 0), (.int .i64 0), (.int .u8 0), (.int .u64 0), (.int .u64 0)] (.c .nils) (.t 4))⟩, ⟨(some 6), none, false, (.fa 0 (.t 1))⟩, ⟨none, none, false, (.st 1 (.t 6) (.t 5))⟩])
 (.seq (.reg [⟨(some 7), none, false, (.fa 1 (.t 1))⟩, ⟨(some 8), none, true, (.ld false 1 (.t 7))⟩, ⟨(some 9), none, false, (.app 1 8 [(.int .i64 0)] (.c .nils) (.t 8))⟩, ⟨(some 10), none, false, (.fa 1 (.t 1))⟩, ⟨none, none, false, (.st 1 (.t 10) (.t 9))⟩])
 (.seq (.reg [⟨(some 11), none, false, (.ld true 4 (.t 1))⟩, ⟨none, none, false, (.st 4 (.t 2) (.t 11))⟩])
 .ret))))
theorem l37 : ∃ c, f37.body = some c ∧ liteC prog f37.ntmps c = some q37 := ⟨_, rfl, by kernel_rfl⟩
theorem e37 : prog.funcs[37]? = some f37 := by kernel_rfl
theorem r37 : mapO (resOf prog) f37.results.toList = some [(.c 2 true 4)] := by kernel_rfl
theorem n37 : f37.ntmps = 12 := rfl
def T37 : TE := .fn q37 [(.c 2 true 4)] 12
theorem te37 : TEOK prog 37 T37 := te_fn e37 l37 rfl r37 n37

def q38 : RQ :=
 (.seq (.reg [⟨(some 2), none, false, (.box (.t 0))⟩, ⟨(some 3), none, false, (.box (.t 1))⟩, ⟨(some 4), none, false, (.mv (.c (.int .i64 0)))⟩])
 (.seq (.seq (.reg [⟨(some 5), none, true, (.ld true 8 (.t 2))⟩, ⟨(some 6), none, false, (.cal 42 [(.t 5)])⟩, ⟨(some 7), none, false, (.not (.t 6))⟩])
 (.cond (.t 7)
 (.seq (.reg [⟨(some 4), none, false, (.mv (.c (.int .i64 70)))⟩])
 .ret)
 .skip))
 (.seq (.seq (.reg [⟨(some 8), none, true, (.ld true 8 (.t 2))⟩, ⟨(some 9), none, true, (.ld true 4 (.t 3))⟩, ⟨(some 10), none, false, (.cal 43 [(.t 8), (.t 9)])⟩, ⟨(some 11), none, false, (.not (.t 10))⟩])
 (.cond (.t 11)
 (.seq (.reg [⟨(some 4), none, false, (.mv (.c (.int .i64 8)))⟩])
 .ret)
 .skip))
 (.seq (.reg [⟨(some 4), none, false, (.mv (.c (.int .i64 0)))⟩])
 .ret))))
theorem l38 : ∃ c, f38.body = some c ∧ liteC prog f38.ntmps c = some q38 := ⟨_, rfl, by kernel_rfl⟩
theorem e38 : prog.funcs[38]? = some f38 := by kernel_rfl
theorem r38 : mapO (resOf prog) f38.results.toList = some [(.t 4)] := by kernel_rfl
theorem n38 : f38.ntmps = 12 := rfl
def T38 : TE := .fn q38 [(.t 4)] 12
theorem te38 : TEOK prog 38 T38 := te_fn e38 l38 rfl r38 n38

end Go.Proofs.Ytihkijccnimgbaa
