/-
  The looked-up code of functions of the program. Facts of the program alone, no condition.
-/
import Derived.Test.YtcgodcpgdnfjpaaAiR
import Derived.Test.YtcgodcpgdnfjpaaProg
import Derived.Tactics
namespace Go.Proofs.Ytcgodcpgdnfjpaa
set_option linter.unusedSimpArgs false
set_option linter.unusedVariables false
open Go.Proofs.Try
open Go.Proofs.Ytcgodcpgdnfjpaa.Ai

def q4 : RQ :=
 (.seq (.reg [⟨(some 10), none, false, (.box (.t 4))⟩, ⟨(some 12), none, false, (.mv (.c (.bool false)))⟩])
 (.seq (.reg [⟨(some 18), none, true, (.mv (.t 0))⟩, ⟨(some 19), none, true, (.mv (.t 1))⟩, ⟨(some 20), none, true, (.mv (.t 2))⟩, ⟨(some 21), none, true, (.mv (.t 3))⟩, ⟨(some 22), none, false, (.cal 16 [(.t 18), (.t 19), (.t 20), (.t 21)])⟩, ⟨(some 17), none, false, (.mv (.t 22))⟩, ⟨(some 23), none, false, (.ext (.t 17) 0)⟩, ⟨(some 24), none, false, (.ext (.t 17) 1)⟩, ⟨(some 13), none, false, (.alloc [(.int .i64 0), (.int .i64 0), (.int .i64 0), (.int .u8 0), (.int .u64 0), (.int .u64 0)])⟩, ⟨none, none, false, (.st 6 (.t 13) (.t 23))⟩, ⟨(some 14), none, false, (.mv (.t 24))⟩])
 (.seq (.reg [⟨(some 26), none, true, (.mv (.t 0))⟩, ⟨(some 27), none, true, (.mv (.t 1))⟩, ⟨(some 28), none, true, (.mv (.t 2))⟩, ⟨(some 29), none, true, (.mv (.t 3))⟩, ⟨(some 30), none, false, (.cal 30 [(.t 26), (.t 27), (.t 28), (.t 29)])⟩, ⟨(some 25), none, false, (.mv (.t 30))⟩, ⟨(some 31), none, false, (.ext (.t 25) 0)⟩, ⟨(some 32), none, false, (.ext (.t 25) 1)⟩, ⟨(some 15), none, false, (.alloc [(.int .i64 0), (.int .i64 0), (.int .i64 0), (.int .u8 0), (.int .u64 0), (.int .u64 0)])⟩, ⟨none, none, false, (.st 6 (.t 15) (.t 31))⟩, ⟨(some 16), none, false, (.mv (.t 32))⟩])
 (.seq (.seq (.drw [⟨(some 33), none, false, (.ld true 6 (.t 13))⟩, ⟨(some 34), none, false, (.ld true 6 (.t 15))⟩, ⟨(some 35), none, false, (.eqv true [(0, (.i .i64)), (1, (.i .i64)), (2, (.i .i64)), (3, (.i .u8)), (4, (.i .u64)), (5, (.i .u64))] (.t 33) (.t 34))⟩, ⟨(some 36), none, false, (.mv (.t 35))⟩, ⟨(some 37), (some (36, false)), false, (.mv (.t 14))⟩, ⟨(some 38), (some (36, false)), false, (.mv (.t 16))⟩, ⟨(some 39), (some (36, false)), false, (.bin .neq (.t 37) (.t 38))⟩, ⟨(some 40), none, false, (.pick (.t 36) (.c (.bool true)) (.t 39))⟩, ⟨(some 41), none, false, (.mv (.t 40))⟩, ⟨(some 42), (some (41, false)), true, (.ld true 6 (.t 10))⟩, ⟨(some 43), (some (41, false)), false, (.cal 31 [(.t 42)])⟩, ⟨(some 44), (some (41, false)), true, (.ld true 6 (.t 10))⟩, ⟨(some 45), (some (41, false)), false, (.cal 32 [(.t 44)])⟩, ⟨(some 46), (some (41, false)), false, (.bin .neq (.t 43) (.t 45))⟩, ⟨(some 47), none, false, (.pick (.t 41) (.c (.bool true)) (.t 46))⟩] [])
 (.cond (.t 47)
 (.seq (.reg [⟨(some 12), none, false, (.mv (.c (.bool false)))⟩])
 .ret)
 .skip))
 (.seq (.reg [⟨(some 49), none, true, (.ld true 6 (.t 10))⟩, ⟨(some 50), none, true, (.mv (.t 5))⟩, ⟨(some 51), none, true, (.mv (.t 3))⟩, ⟨(some 52), none, false, (.cal 18 [(.t 49), (.t 50), (.t 51)])⟩, ⟨(some 48), none, false, (.mv (.t 52))⟩, ⟨(some 53), none, false, (.ext (.t 48) 0)⟩, ⟨(some 54), none, false, (.ext (.t 48) 1)⟩, ⟨none, none, false, (.st 6 (.t 13) (.t 53))⟩, ⟨(some 14), none, false, (.mv (.t 54))⟩])
 (.seq (.reg [⟨(some 56), none, true, (.ld true 6 (.t 10))⟩, ⟨(some 57), none, true, (.mv (.t 5))⟩, ⟨(some 58), none, true, (.mv (.t 3))⟩, ⟨(some 59), none, false, (.cal 33 [(.t 56), (.t 57), (.t 58)])⟩, ⟨(some 55), none, false, (.mv (.t 59))⟩, ⟨(some 60), none, false, (.ext (.t 55) 0)⟩, ⟨(some 61), none, false, (.ext (.t 55) 1)⟩, ⟨none, none, false, (.st 6 (.t 15) (.t 60))⟩, ⟨(some 16), none, false, (.mv (.t 61))⟩])
 (.seq (.reg [⟨(some 62), none, false, (.ld true 6 (.t 13))⟩, ⟨(some 63), none, false, (.ld true 6 (.t 15))⟩, ⟨(some 64), none, false, (.eqv false [(0, (.i .i64)), (1, (.i .i64)), (2, (.i .i64)), (3, (.i .u8)), (4, (.i .u64)), (5, (.i .u64))] (.t 62) (.t 63))⟩, ⟨(some 65), none, false, (.mv (.t 64))⟩, ⟨(some 66), (some (65, true)), false, (.mv (.t 14))⟩, ⟨(some 67), (some (65, true)), false, (.mv (.t 16))⟩, ⟨(some 68), (some (65, true)), false, (.bin .eql (.t 66) (.t 67))⟩, ⟨(some 69), none, false, (.pick (.t 65) (.t 68) (.c (.bool false)))⟩, ⟨(some 12), none, false, (.mv (.t 69))⟩])
 .ret)))))))
theorem l4 : ∃ c, f4.body = some c ∧ liteC prog f4.ntmps c = some q4 := ⟨_, rfl, by kernel_rfl⟩
theorem e4 : prog.funcs[4]? = some f4 := by kernel_rfl
theorem r4 : mapO (resOf prog) f4.results.toList = some [(.t 12)] := by kernel_rfl
theorem n4 : f4.ntmps = 70 := rfl

def q5 : RQ :=
 (.seq (.reg [⟨(some 4), none, false, (.box (.t 0))⟩, ⟨(some 8), none, false, (.mv (.c (.bool false)))⟩])
 (.seq (.reg [⟨(some 16), none, true, (.ld true 2 (.t 4))⟩, ⟨(some 17), none, true, (.mv (.t 1))⟩, ⟨(some 18), none, true, (.mv (.t 2))⟩, ⟨(some 19), none, true, (.mv (.t 3))⟩, ⟨(some 20), none, false, (.cal 19 [(.t 16), (.t 17), (.t 18), (.t 19)])⟩, ⟨(some 15), none, false, (.mv (.t 20))⟩, ⟨(some 21), none, false, (.ext (.t 15) 0)⟩, ⟨(some 22), none, false, (.ext (.t 15) 1)⟩, ⟨(some 9), none, false, (.alloc [(.int .u64 0), (.int .i64 0)])⟩, ⟨none, none, false, (.st 2 (.t 9) (.t 21))⟩, ⟨(some 10), none, false, (.mv (.t 22))⟩])
 (.seq (.reg [⟨(some 24), none, true, (.ld true 2 (.t 4))⟩, ⟨(some 25), none, true, (.mv (.t 1))⟩, ⟨(some 26), none, true, (.mv (.t 2))⟩, ⟨(some 27), none, true, (.mv (.t 3))⟩, ⟨(some 28), none, false, (.cal 34 [(.t 24), (.t 25), (.t 26), (.t 27)])⟩, ⟨(some 23), none, false, (.mv (.t 28))⟩, ⟨(some 29), none, false, (.ext (.t 23) 0)⟩, ⟨(some 30), none, false, (.ext (.t 23) 1)⟩, ⟨(some 11), none, false, (.alloc [(.int .u64 0), (.int .i64 0)])⟩, ⟨none, none, false, (.st 2 (.t 11) (.t 29))⟩, ⟨(some 12), none, false, (.mv (.t 30))⟩])
 (.seq (.seq (.drw [⟨(some 31), none, false, (.ld true 2 (.t 9))⟩, ⟨(some 32), none, false, (.ld true 2 (.t 11))⟩, ⟨(some 33), none, false, (.eqv true [(0, (.i .u64)), (1, (.i .i64))] (.t 31) (.t 32))⟩, ⟨(some 34), none, false, (.mv (.t 33))⟩, ⟨(some 35), (some (34, false)), false, (.mv (.t 10))⟩, ⟨(some 36), (some (34, false)), false, (.mv (.t 12))⟩, ⟨(some 37), (some (34, false)), false, (.bin .neq (.t 35) (.t 36))⟩, ⟨(some 38), none, false, (.pick (.t 34) (.c (.bool true)) (.t 37))⟩, ⟨(some 39), none, false, (.mv (.t 38))⟩, ⟨(some 40), (some (39, false)), true, (.ld true 2 (.t 4))⟩, ⟨(some 41), (some (39, false)), true, (.mv (.t 1))⟩, ⟨(some 42), (some (39, false)), true, (.mv (.t 2))⟩, ⟨(some 43), (some (39, false)), false, (.cal 21 [(.t 40), (.t 41), (.t 42)])⟩, ⟨(some 44), (some (39, false)), true, (.ld true 2 (.t 4))⟩, ⟨(some 45), (some (39, false)), true, (.mv (.t 1))⟩, ⟨(some 46), (some (39, false)), true, (.mv (.t 2))⟩, ⟨(some 47), (some (39, false)), false, (.cal 35 [(.t 44), (.t 45), (.t 46)])⟩, ⟨(some 48), (some (39, false)), false, (.bin .neq (.t 43) (.t 47))⟩, ⟨(some 49), none, false, (.pick (.t 39) (.c (.bool true)) (.t 48))⟩] [])
 (.cond (.t 49)
 (.seq (.reg [⟨(some 8), none, false, (.mv (.c (.bool false)))⟩])
 .ret)
 .skip))
 (.seq (.reg [⟨(some 51), none, true, (.ld true 2 (.t 4))⟩, ⟨(some 52), none, true, (.mv (.t 1))⟩, ⟨(some 53), none, true, (.mv (.t 2))⟩, ⟨(some 54), none, true, (.mv (.t 3))⟩, ⟨(some 55), none, false, (.cal 20 [(.t 51), (.t 52), (.t 53), (.t 54)])⟩, ⟨(some 50), none, false, (.mv (.t 55))⟩, ⟨(some 56), none, false, (.ext (.t 50) 0)⟩, ⟨(some 57), none, false, (.ext (.t 50) 1)⟩, ⟨(some 13), none, false, (.mv (.t 56))⟩, ⟨(some 10), none, false, (.mv (.t 57))⟩])
 (.seq (.reg [⟨(some 59), none, true, (.ld true 2 (.t 4))⟩, ⟨(some 60), none, true, (.mv (.t 1))⟩, ⟨(some 61), none, true, (.mv (.t 2))⟩, ⟨(some 62), none, true, (.mv (.t 3))⟩, ⟨(some 63), none, false, (.cal 36 [(.t 59), (.t 60), (.t 61), (.t 62)])⟩, ⟨(some 58), none, false, (.mv (.t 63))⟩, ⟨(some 64), none, false, (.ext (.t 58) 0)⟩, ⟨(some 65), none, false, (.ext (.t 58) 1)⟩, ⟨(some 14), none, false, (.mv (.t 64))⟩, ⟨(some 12), none, false, (.mv (.t 65))⟩])
 (.seq (.reg [⟨(some 66), none, false, (.mv (.t 13))⟩, ⟨(some 67), none, false, (.mv (.t 14))⟩, ⟨(some 68), none, false, (.bin .eql (.t 66) (.t 67))⟩, ⟨(some 69), none, false, (.mv (.t 68))⟩, ⟨(some 70), (some (69, true)), false, (.mv (.t 10))⟩, ⟨(some 71), (some (69, true)), false, (.mv (.t 12))⟩, ⟨(some 72), (some (69, true)), false, (.bin .eql (.t 70) (.t 71))⟩, ⟨(some 73), none, false, (.pick (.t 69) (.t 72) (.c (.bool false)))⟩, ⟨(some 8), none, false, (.mv (.t 73))⟩])
 .ret)))))))
theorem l5 : ∃ c, f5.body = some c ∧ liteC prog f5.ntmps c = some q5 := ⟨_, rfl, by kernel_rfl⟩
theorem e5 : prog.funcs[5]? = some f5 := by kernel_rfl
theorem r5 : mapO (resOf prog) f5.results.toList = some [(.t 8)] := by kernel_rfl
theorem n5 : f5.ntmps = 74 := rfl

def q16 : RQ :=
 (.seq (.reg [⟨(some 8), none, false, (.alloc [(.int .i64 0), (.int .i64 0), (.int .i64 0), (.int .u8 0), (.int .u64 0), (.int .u64 0)])⟩, ⟨(some 9), none, false, (.mv (.c (.int .i64 0)))⟩])
 (.seq (.reg [⟨(some 11), none, false, (.mv (.t 0))⟩, ⟨(some 12), none, false, (.mv (.t 1))⟩, ⟨(some 13), none, false, (.mv (.t 2))⟩, ⟨(some 14), none, false, (.mv (.t 3))⟩, ⟨(some 15), none, false, (.build [(.int .i64 0), (.int .i64 0), (.int .i64 0), (.int .u8 0), (.int .u64 0), (.int .u64 0)] [(0, 1, (.t 11)), (1, 1, (.t 12)), (2, 1, (.t 13)), (3, 1, (.c (.int .u8 1))), (4, 1, (.t 14))])⟩, ⟨(some 10), none, false, (.alloc [(.int .i64 0), (.int .i64 0), (.int .i64 0), (.int .u8 0), (.int .u64 0), (.int .u64 0)])⟩, ⟨none, none, false, (.st 6 (.t 10) (.t 15))⟩])
 (.seq (.seq (.reg [⟨(some 16), none, true, (.ld true 6 (.t 10))⟩, ⟨(some 17), none, false, (.cal 31 [(.t 16)])⟩, ⟨(some 18), none, false, (.bin .neq (.t 17) (.c (.int .i64 0)))⟩])
 (.cond (.t 18)
 (.seq (.reg [⟨(some 19), none, false, (.build [(.int .i64 0), (.int .i64 0), (.int .i64 0), (.int .u8 0), (.int .u64 0), (.int .u64 0)] [])⟩, ⟨none, none, false, (.st 6 (.t 8) (.t 19))⟩, ⟨(some 9), none, false, (.mv (.c (.int .i64 2)))⟩])
 .ret)
 .skip))
 (.seq (.reg [⟨(some 20), none, false, (.ld true 6 (.t 10))⟩, ⟨none, none, false, (.st 6 (.t 8) (.t 20))⟩, ⟨(some 9), none, false, (.mv (.c (.int .i64 0)))⟩])
 .ret))))
theorem l16 : ∃ c, f16.body = some c ∧ liteC prog f16.ntmps c = some q16 := ⟨_, rfl, by kernel_rfl⟩
theorem e16 : prog.funcs[16]? = some f16 := by kernel_rfl
theorem r16 : mapO (resOf prog) f16.results.toList = some [(.c 8 true 6), (.t 9)] := by kernel_rfl
theorem n16 : f16.ntmps = 21 := rfl

def q18 : RQ :=
 (.seq (.reg [⟨(some 3), none, false, (.box (.t 0))⟩, ⟨(some 6), none, false, (.alloc [(.int .i64 0), (.int .i64 0), (.int .i64 0), (.int .u8 0), (.int .u64 0), (.int .u64 0)])⟩, ⟨(some 7), none, false, (.mv (.c (.int .i64 0)))⟩])
 (.seq (.seq (.reg [⟨(some 9), none, true, (.ld true 6 (.t 3))⟩, ⟨(some 10), none, false, (.cal 31 [(.t 9)])⟩, ⟨(some 8), none, false, (.mv (.t 10))⟩])
 (.seq (.reg [⟨(some 11), none, false, (.mv (.t 8))⟩, ⟨(some 12), none, false, (.bin .neq (.t 11) (.c (.int .i64 0)))⟩])
 (.cond (.t 12)
 (.seq (.reg [⟨(some 13), none, false, (.build [(.int .i64 0), (.int .i64 0), (.int .i64 0), (.int .u8 0), (.int .u64 0), (.int .u64 0)] [])⟩, ⟨(some 14), none, false, (.mv (.t 8))⟩, ⟨none, none, false, (.st 6 (.t 6) (.t 13))⟩, ⟨(some 7), none, false, (.mv (.t 14))⟩])
 .ret)
 .skip)))
 (.seq (.seq (.reg [⟨(some 15), none, true, (.mv (.t 1))⟩, ⟨(some 16), none, false, (.cal 47 [(.t 15)])⟩, ⟨(some 17), none, false, (.not (.t 16))⟩, ⟨(some 18), none, false, (.mv (.t 17))⟩, ⟨(some 19), (some (18, false)), false, (.mv (.t 2))⟩, ⟨(some 20), (some (18, false)), false, (.bin .gtr (.t 19) (.c (.int .u64 4611686018427387904)))⟩, ⟨(some 21), none, false, (.pick (.t 18) (.c (.bool true)) (.t 20))⟩, ⟨(some 22), none, false, (.mv (.t 21))⟩, ⟨(some 23), (some (22, false)), false, (.mv (.t 1))⟩, ⟨(some 24), (some (22, false)), false, (.bin .eql (.t 23) (.c (.int .u8 4)))⟩, ⟨(some 25), (some (22, false)), false, (.mv (.t 24))⟩, ⟨(some 26), (some (25, true)), false, (.mv (.t 2))⟩, ⟨(some 27), (some (25, true)), false, (.bin .eql (.t 26) (.c (.int .u64 0)))⟩, ⟨(some 28), (some (22, false)), false, (.pick (.t 25) (.t 27) (.c (.bool false)))⟩, ⟨(some 29), none, false, (.pick (.t 22) (.c (.bool true)) (.t 28))⟩])
 (.cond (.t 29)
 (.seq (.reg [⟨(some 30), none, false, (.build [(.int .i64 0), (.int .i64 0), (.int .i64 0), (.int .u8 0), (.int .u64 0), (.int .u64 0)] [])⟩, ⟨none, none, false, (.st 6 (.t 6) (.t 30))⟩, ⟨(some 7), none, false, (.mv (.c (.int .i64 2)))⟩])
 .ret)
 .skip))
 (.seq (.seq (.reg [⟨(some 31), none, false, (.fa 3 (.t 3))⟩, ⟨(some 32), none, true, (.ld false 1 (.t 31))⟩, ⟨(some 33), none, true, (.mv (.t 1))⟩, ⟨(some 34), none, false, (.cal 48 [(.t 32), (.t 33)])⟩, ⟨(some 35), none, false, (.not (.t 34))⟩])
 (.cond (.t 35)
 (.seq (.reg [⟨(some 36), none, false, (.build [(.int .i64 0), (.int .i64 0), (.int .i64 0), (.int .u8 0), (.int .u64 0), (.int .u64 0)] [])⟩, ⟨none, none, false, (.st 6 (.t 6) (.t 36))⟩, ⟨(some 7), none, false, (.mv (.c (.int .i64 150)))⟩])
 .ret)
 .skip))
 (.seq (.reg [⟨(some 37), none, false, (.mv (.t 1))⟩, ⟨(some 38), none, false, (.fa 3 (.t 3))⟩, ⟨none, none, false, (.st 1 (.t 38) (.t 37))⟩])
 (.seq (.seq (.reg [⟨(some 39), none, false, (.mv (.t 1))⟩, ⟨(some 40), none, false, (.bin .eql (.t 39) (.c (.int .u8 4)))⟩])
 (.cond (.t 40)
 (.reg [⟨(some 41), none, false, (.mv (.t 2))⟩, ⟨(some 42), none, false, (.fa 5 (.t 3))⟩, ⟨none, none, false, (.st 1 (.t 42) (.t 41))⟩])
 .skip))
 (.seq (.reg [⟨(some 43), none, false, (.ld true 6 (.t 3))⟩, ⟨none, none, false, (.st 6 (.t 6) (.t 43))⟩, ⟨(some 7), none, false, (.mv (.c (.int .i64 0)))⟩])
 .ret)))))))
theorem l18 : ∃ c, f18.body = some c ∧ liteC prog f18.ntmps c = some q18 := ⟨_, rfl, by kernel_rfl⟩
theorem e18 : prog.funcs[18]? = some f18 := by kernel_rfl
theorem r18 : mapO (resOf prog) f18.results.toList = some [(.c 6 true 6), (.t 7)] := by kernel_rfl
theorem n18 : f18.ntmps = 44 := rfl

def q19 : RQ :=
 (.seq (.reg [⟨(some 4), none, false, (.box (.t 0))⟩, ⟨(some 8), none, false, (.alloc [(.int .u64 0), (.int .i64 0)])⟩, ⟨(some 9), none, false, (.mv (.c (.int .i64 0)))⟩])
 (.seq (.reg [⟨(some 13), none, true, (.ld true 2 (.t 4))⟩, ⟨(some 14), none, true, (.mv (.t 1))⟩, ⟨(some 15), none, true, (.mv (.t 2))⟩, ⟨(some 16), none, true, (.mv (.t 3))⟩, ⟨(some 17), none, false, (.cal 20 [(.t 13), (.t 14), (.t 15), (.t 16)])⟩, ⟨(some 12), none, false, (.mv (.t 17))⟩, ⟨(some 18), none, false, (.ext (.t 12) 0)⟩, ⟨(some 19), none, false, (.ext (.t 12) 1)⟩, ⟨(some 10), none, false, (.mv (.t 18))⟩, ⟨(some 11), none, false, (.mv (.t 19))⟩])
 (.seq (.seq (.reg [⟨(some 20), none, false, (.mv (.t 11))⟩, ⟨(some 21), none, false, (.bin .neq (.t 20) (.c (.int .i64 0)))⟩])
 (.cond (.t 21)
 (.seq (.reg [⟨(some 22), none, false, (.build [(.int .u64 0), (.int .i64 0)] [])⟩, ⟨(some 23), none, false, (.mv (.t 11))⟩, ⟨none, none, false, (.st 2 (.t 8) (.t 22))⟩, ⟨(some 9), none, false, (.mv (.t 23))⟩])
 .ret)
 .skip))
 (.seq (.seq (.reg [⟨(some 24), none, false, (.mv (.t 10))⟩, ⟨(some 25), none, false, (.bin .eql (.t 24) (.c (.int .i64 0)))⟩])
 (.cond (.t 25)
 (.seq (.reg [⟨(some 26), none, false, (.build [(.int .u64 0), (.int .i64 0)] [])⟩, ⟨none, none, false, (.st 2 (.t 8) (.t 26))⟩, ⟨(some 9), none, false, (.mv (.c (.int .i64 160)))⟩])
 .ret)
 .skip))
 (.seq (.reg [⟨(some 27), none, true, (.mv (.t 3))⟩, ⟨(some 28), none, true, (.mv (.t 1))⟩, ⟨(some 29), none, false, (.cal 49 [(.t 27), (.t 28)])⟩, ⟨(some 30), none, false, (.mv (.t 2))⟩, ⟨(some 31), none, false, (.mv (.t 10))⟩, ⟨(some 32), none, false, (.bin .sub (.t 30) (.t 31))⟩, ⟨(some 33), none, false, (.bin .add (.t 32) (.c (.int .i64 1)))⟩, ⟨(some 34), none, false, (.build [(.int .u64 0), (.int .i64 0)] [(0, 1, (.t 29)), (1, 1, (.t 33))])⟩, ⟨none, none, false, (.st 2 (.t 8) (.t 34))⟩, ⟨(some 9), none, false, (.mv (.c (.int .i64 0)))⟩])
 .ret)))))
theorem l19 : ∃ c, f19.body = some c ∧ liteC prog f19.ntmps c = some q19 := ⟨_, rfl, by kernel_rfl⟩
theorem e19 : prog.funcs[19]? = some f19 := by kernel_rfl
theorem r19 : mapO (resOf prog) f19.results.toList = some [(.c 8 true 2), (.t 9)] := by kernel_rfl
theorem n19 : f19.ntmps = 35 := rfl

def q20 : RQ :=
 (.seq (.reg [⟨(some 4), none, false, (.box (.t 0))⟩, ⟨(some 8), none, false, (.mv (.c (.int .i64 0)))⟩, ⟨(some 9), none, false, (.mv (.c (.int .i64 0)))⟩])
 (.seq (.seq (.reg [⟨(some 11), none, true, (.ld true 2 (.t 4))⟩, ⟨(some 12), none, true, (.mv (.t 1))⟩, ⟨(some 13), none, true, (.mv (.t 2))⟩, ⟨(some 14), none, false, (.cal 21 [(.t 11), (.t 12), (.t 13)])⟩, ⟨(some 10), none, false, (.mv (.t 14))⟩])
 (.seq (.reg [⟨(some 15), none, false, (.mv (.t 10))⟩, ⟨(some 16), none, false, (.bin .neq (.t 15) (.c (.int .i64 0)))⟩])
 (.cond (.t 16)
 (.seq (.reg [⟨(some 17), none, false, (.mv (.t 10))⟩, ⟨(some 8), none, false, (.mv (.c (.int .i64 0)))⟩, ⟨(some 9), none, false, (.mv (.t 17))⟩])
 .ret)
 .skip)))
 (.seq (.seq (.reg [⟨(some 18), none, false, (.mv (.t 3))⟩, ⟨(some 19), none, false, (.bin .gtr (.t 18) (.c (.int .u64 4611686018427387904)))⟩])
 (.cond (.t 19)
 (.seq (.reg [⟨(some 8), none, false, (.mv (.c (.int .i64 0)))⟩, ⟨(some 9), none, false, (.mv (.c (.int .i64 2)))⟩])
 .ret)
 .skip))
 (.seq (.seq (.drw [⟨(some 20), none, true, (.mv (.t 3))⟩, ⟨(some 21), none, true, (.mv (.t 1))⟩, ⟨(some 22), none, false, (.cal 49 [(.t 20), (.t 21)])⟩, ⟨(some 23), none, false, (.fa 0 (.t 4))⟩, ⟨(some 24), none, false, (.ld false 1 (.t 23))⟩, ⟨(some 25), none, false, (.bin .neq (.t 22) (.t 24))⟩] [])
 (.cond (.t 25)
 (.seq (.reg [⟨(some 26), none, false, (.mv (.t 2))⟩, ⟨(some 8), none, false, (.mv (.t 26))⟩, ⟨(some 9), none, false, (.mv (.c (.int .i64 0)))⟩])
 .ret)
 .skip))
 (.seq (.reg [⟨(some 27), none, false, (.mv (.t 2))⟩, ⟨(some 28), none, false, (.fa 1 (.t 4))⟩, ⟨(some 29), none, false, (.ld false 1 (.t 28))⟩, ⟨(some 30), none, false, (.bin .sub (.t 27) (.t 29))⟩, ⟨(some 8), none, false, (.mv (.t 30))⟩, ⟨(some 9), none, false, (.mv (.c (.int .i64 0)))⟩])
 .ret)))))
theorem l20 : ∃ c, f20.body = some c ∧ liteC prog f20.ntmps c = some q20 := ⟨_, rfl, by kernel_rfl⟩
theorem e20 : prog.funcs[20]? = some f20 := by kernel_rfl
theorem r20 : mapO (resOf prog) f20.results.toList = some [(.t 8), (.t 9)] := by kernel_rfl
theorem n20 : f20.ntmps = 31 := rfl

def q21 : RQ :=
 (.seq (.reg [⟨(some 3), none, false, (.box (.t 0))⟩, ⟨(some 6), none, false, (.mv (.c (.int .i64 0)))⟩])
 (.seq (.seq (.reg [⟨(some 7), none, false, (.mv (.t 1))⟩, ⟨(some 8), none, true, (.bslice 1 1 [(.int .i64 0)] [(0, (.t 7))])⟩, ⟨(some 9), none, false, (.cal 50 [(.c (.int .i64 1)), (.c (.int .i64 64)), (.t 8)])⟩, ⟨(some 10), none, false, (.not (.t 9))⟩, ⟨(some 11), none, false, (.mv (.t 10))⟩, ⟨(some 12), (some (11, false)), false, (.mv (.t 2))⟩, ⟨(some 13), (some (11, false)), true, (.bslice 1 1 [(.int .i64 0)] [(0, (.t 12))])⟩, ⟨(some 14), (some (11, false)), false, (.cal 50 [(.c (.int .i64 1)), (.c (.int .i64 16)), (.t 13)])⟩, ⟨(some 15), (some (11, false)), false, (.not (.t 14))⟩, ⟨(some 16), none, false, (.pick (.t 11) (.c (.bool true)) (.t 15))⟩])
 (.cond (.t 16)
 (.seq (.reg [⟨(some 6), none, false, (.mv (.c (.int .i64 2)))⟩])
 .ret)
 .skip))
 (.seq (.seq (.reg [⟨(some 17), none, false, (.fa 0 (.t 3))⟩, ⟨(some 18), none, false, (.ld false 1 (.t 17))⟩, ⟨(some 19), none, false, (.bin .gtr (.t 18) (.c (.int .u64 4611686018427387904)))⟩, ⟨(some 20), none, false, (.mv (.t 19))⟩, ⟨(some 21), (some (20, false)), true, (.mv (.t 2))⟩, ⟨(some 22), (some (20, false)), false, (.fa 1 (.t 3))⟩, ⟨(some 23), (some (20, false)), false, (.ld false 1 (.t 22))⟩, ⟨(some 24), (some (20, false)), true, (.bslice 1 1 [(.int .i64 0)] [(0, (.t 23))])⟩, ⟨(some 25), (some (20, false)), false, (.cal 50 [(.c (.int .i64 0)), (.t 21), (.t 24)])⟩, ⟨(some 26), (some (20, false)), false, (.not (.t 25))⟩, ⟨(some 27), none, false, (.pick (.t 20) (.c (.bool true)) (.t 26))⟩])
 (.cond (.t 27)
 (.seq (.reg [⟨(some 6), none, false, (.mv (.c (.int .i64 8)))⟩])
 .ret)
 .skip))
 (.seq (.reg [⟨(some 6), none, false, (.mv (.c (.int .i64 0)))⟩])
 .ret))))
theorem l21 : ∃ c, f21.body = some c ∧ liteC prog f21.ntmps c = some q21 := ⟨_, rfl, by kernel_rfl⟩
theorem e21 : prog.funcs[21]? = some f21 := by kernel_rfl
theorem r21 : mapO (resOf prog) f21.results.toList = some [(.t 6)] := by kernel_rfl
theorem n21 : f21.ntmps = 28 := rfl

def q30 : RQ :=
 (.seq (.reg [⟨(some 8), none, false, (.alloc [(.int .i64 0), (.int .i64 0), (.int .i64 0), (.int .u8 0), (.int .u64 0), (.int .u64 0)])⟩, ⟨(some 9), none, false, (.mv (.c (.int .i64 0)))⟩])
 (.seq (.reg [⟨(some 11), none, false, (.mv (.t 0))⟩, ⟨(some 12), none, false, (.mv (.t 1))⟩, ⟨(some 13), none, false, (.mv (.t 2))⟩, ⟨(some 14), none, false, (.mv (.t 3))⟩, ⟨(some 15), none, false, (.build [(.int .i64 0), (.int .i64 0), (.int .i64 0), (.int .u8 0), (.int .u64 0), (.int .u64 0)] [(0, 1, (.t 11)), (1, 1, (.t 12)), (2, 1, (.t 13)), (3, 1, (.c (.int .u8 1))), (4, 1, (.t 14))])⟩, ⟨(some 10), none, false, (.alloc [(.int .i64 0), (.int .i64 0), (.int .i64 0), (.int .u8 0), (.int .u64 0), (.int .u64 0)])⟩, ⟨none, none, false, (.st 6 (.t 10) (.t 15))⟩])
 (.seq (.seq (.reg [⟨(some 16), none, true, (.ld true 6 (.t 10))⟩, ⟨(some 17), none, false, (.cal 56 [(.t 16)])⟩, ⟨(some 18), none, false, (.not (.t 17))⟩])
 (.cond (.t 18)
 (.seq (.reg [⟨(some 19), none, false, (.build [(.int .i64 0), (.int .i64 0), (.int .i64 0), (.int .u8 0), (.int .u64 0), (.int .u64 0)] [])⟩, ⟨none, none, false, (.st 6 (.t 8) (.t 19))⟩, ⟨(some 9), none, false, (.mv (.c (.int .i64 2)))⟩])
 .ret)
 .skip))
 (.seq (.reg [⟨(some 20), none, false, (.ld true 6 (.t 10))⟩, ⟨none, none, false, (.st 6 (.t 8) (.t 20))⟩, ⟨(some 9), none, false, (.mv (.c (.int .i64 0)))⟩])
 .ret))))
theorem l30 : ∃ c, f30.body = some c ∧ liteC prog f30.ntmps c = some q30 := ⟨_, rfl, by kernel_rfl⟩
theorem e30 : prog.funcs[30]? = some f30 := by kernel_rfl
theorem r30 : mapO (resOf prog) f30.results.toList = some [(.c 8 true 6), (.t 9)] := by kernel_rfl
theorem n30 : f30.ntmps = 21 := rfl

def q31 : RQ :=
 (.seq (.reg [⟨(some 1), none, false, (.box (.t 0))⟩, ⟨(some 2), none, false, (.mv (.c (.int .i64 0)))⟩])
 (.seq (.seq (.reg [⟨(some 3), none, false, (.fa 0 (.t 1))⟩, ⟨(some 4), none, false, (.ld false 1 (.t 3))⟩, ⟨(some 5), none, true, (.bslice 1 1 [(.int .i64 0)] [(0, (.t 4))])⟩, ⟨(some 6), none, false, (.cal 50 [(.c (.int .i64 1)), (.c (.int .i64 64)), (.t 5)])⟩, ⟨(some 7), none, false, (.not (.t 6))⟩, ⟨(some 8), none, false, (.mv (.t 7))⟩, ⟨(some 9), (some (8, false)), false, (.fa 1 (.t 1))⟩, ⟨(some 10), (some (8, false)), false, (.ld false 1 (.t 9))⟩, ⟨(some 11), (some (8, false)), false, (.fa 2 (.t 1))⟩, ⟨(some 12), (some (8, false)), false, (.ld false 1 (.t 11))⟩, ⟨(some 13), (some (8, false)), true, (.bslice 1 2 [(.int .i64 0)] [(0, (.t 10)), (1, (.t 12))])⟩, ⟨(some 14), (some (8, false)), false, (.cal 50 [(.c (.int .i64 0)), (.c (.int .i64 2)), (.t 13)])⟩, ⟨(some 15), (some (8, false)), false, (.not (.t 14))⟩, ⟨(some 16), none, false, (.pick (.t 8) (.c (.bool true)) (.t 15))⟩, ⟨(some 17), none, false, (.mv (.t 16))⟩, ⟨(some 18), (some (17, false)), false, (.fa 3 (.t 1))⟩, ⟨(some 19), (some (17, false)), true, (.ld false 1 (.t 18))⟩, ⟨(some 20), (some (17, false)), false, (.cal 47 [(.t 19)])⟩, ⟨(some 21), (some (17, false)), false, (.not (.t 20))⟩, ⟨(some 22), none, false, (.pick (.t 17) (.c (.bool true)) (.t 21))⟩, ⟨(some 23), none, false, (.mv (.t 22))⟩, ⟨(some 24), (some (23, false)), false, (.fa 4 (.t 1))⟩, ⟨(some 25), (some (23, false)), false, (.ld false 1 (.t 24))⟩, ⟨(some 26), (some (23, false)), false, (.bin .gtr (.t 25) (.c (.int .u64 4611686018427387904)))⟩, ⟨(some 27), none, false, (.pick (.t 23) (.c (.bool true)) (.t 26))⟩, ⟨(some 28), none, false, (.mv (.t 27))⟩, ⟨(some 29), (some (28, false)), true, (.ld true 6 (.t 1))⟩, ⟨(some 30), (some (28, false)), false, (.cal 57 [(.t 29)])⟩, ⟨(some 31), (some (28, false)), false, (.not (.t 30))⟩, ⟨(some 32), none, false, (.pick (.t 28) (.c (.bool true)) (.t 31))⟩])
 (.cond (.t 32)
 (.seq (.reg [⟨(some 2), none, false, (.mv (.c (.int .i64 8)))⟩])
 .ret)
 .skip))
 (.seq (.reg [⟨(some 2), none, false, (.mv (.c (.int .i64 0)))⟩])
 .ret)))
theorem l31 : ∃ c, f31.body = some c ∧ liteC prog f31.ntmps c = some q31 := ⟨_, rfl, by kernel_rfl⟩
theorem e31 : prog.funcs[31]? = some f31 := by kernel_rfl
theorem r31 : mapO (resOf prog) f31.results.toList = some [(.t 2)] := by kernel_rfl
theorem n31 : f31.ntmps = 33 := rfl

def q32 : RQ :=
 (.seq (.reg [⟨(some 1), none, false, (.box (.t 0))⟩, ⟨(some 2), none, false, (.mv (.c (.int .i64 0)))⟩])
 (.seq (.seq (.reg [⟨(some 3), none, true, (.ld true 6 (.t 1))⟩, ⟨(some 4), none, false, (.cal 56 [(.t 3)])⟩, ⟨(some 5), none, false, (.not (.t 4))⟩])
 (.cond (.t 5)
 (.seq (.reg [⟨(some 2), none, false, (.mv (.c (.int .i64 8)))⟩])
 .ret)
 .skip))
 (.seq (.reg [⟨(some 2), none, false, (.mv (.c (.int .i64 0)))⟩])
 .ret)))
theorem l32 : ∃ c, f32.body = some c ∧ liteC prog f32.ntmps c = some q32 := ⟨_, rfl, by kernel_rfl⟩
theorem e32 : prog.funcs[32]? = some f32 := by kernel_rfl
theorem r32 : mapO (resOf prog) f32.results.toList = some [(.t 2)] := by kernel_rfl
theorem n32 : f32.ntmps = 6 := rfl

def q33 : RQ :=
 (.seq (.reg [⟨(some 3), none, false, (.box (.t 0))⟩, ⟨(some 6), none, false, (.alloc [(.int .i64 0), (.int .i64 0), (.int .i64 0), (.int .u8 0), (.int .u64 0), (.int .u64 0)])⟩, ⟨(some 7), none, false, (.mv (.c (.int .i64 0)))⟩])
 (.seq (.seq (.reg [⟨(some 8), none, true, (.ld true 6 (.t 3))⟩, ⟨(some 9), none, false, (.cal 56 [(.t 8)])⟩, ⟨(some 10), none, false, (.not (.t 9))⟩])
 (.cond (.t 10)
 (.seq (.reg [⟨(some 11), none, false, (.build [(.int .i64 0), (.int .i64 0), (.int .i64 0), (.int .u8 0), (.int .u64 0), (.int .u64 0)] [])⟩, ⟨none, none, false, (.st 6 (.t 6) (.t 11))⟩, ⟨(some 7), none, false, (.mv (.c (.int .i64 8)))⟩])
 .ret)
 .skip))
 (.seq (.seq (.reg [⟨(some 12), none, false, (.mv (.t 1))⟩, ⟨(some 13), none, false, (.bin .lss (.t 12) (.c (.int .u8 1)))⟩, ⟨(some 14), none, false, (.mv (.t 13))⟩, ⟨(some 15), (some (14, false)), false, (.mv (.t 1))⟩, ⟨(some 16), (some (14, false)), false, (.bin .gtr (.t 15) (.c (.int .u8 5)))⟩, ⟨(some 17), none, false, (.pick (.t 14) (.c (.bool true)) (.t 16))⟩, ⟨(some 18), none, false, (.mv (.t 17))⟩, ⟨(some 19), (some (18, false)), false, (.mv (.t 2))⟩, ⟨(some 20), (some (18, false)), false, (.bin .gtr (.t 19) (.c (.int .u64 4611686018427387904)))⟩, ⟨(some 21), none, false, (.pick (.t 18) (.c (.bool true)) (.t 20))⟩, ⟨(some 22), none, false, (.mv (.t 21))⟩, ⟨(some 23), (some (22, false)), false, (.mv (.t 1))⟩, ⟨(some 24), (some (22, false)), false, (.bin .eql (.t 23) (.c (.int .u8 4)))⟩, ⟨(some 25), (some (22, false)), false, (.mv (.t 24))⟩, ⟨(some 26), (some (25, true)), false, (.mv (.t 2))⟩, ⟨(some 27), (some (25, true)), false, (.bin .eql (.t 26) (.c (.int .u64 0)))⟩, ⟨(some 28), (some (22, false)), false, (.pick (.t 25) (.t 27) (.c (.bool false)))⟩, ⟨(some 29), none, false, (.pick (.t 22) (.c (.bool true)) (.t 28))⟩])
 (.cond (.t 29)
 (.seq (.reg [⟨(some 30), none, false, (.build [(.int .i64 0), (.int .i64 0), (.int .i64 0), (.int .u8 0), (.int .u64 0), (.int .u64 0)] [])⟩, ⟨none, none, false, (.st 6 (.t 6) (.t 30))⟩, ⟨(some 7), none, false, (.mv (.c (.int .i64 2)))⟩])
 .ret)
 .skip))
 (.seq (.seq (.reg [⟨(some 31), none, false, (.fa 3 (.t 3))⟩, ⟨(some 32), none, true, (.ld false 1 (.t 31))⟩, ⟨(some 33), none, true, (.mv (.t 1))⟩, ⟨(some 34), none, false, (.cal 58 [(.t 32), (.t 33)])⟩, ⟨(some 35), none, false, (.not (.t 34))⟩])
 (.cond (.t 35)
 (.seq (.reg [⟨(some 36), none, false, (.build [(.int .i64 0), (.int .i64 0), (.int .i64 0), (.int .u8 0), (.int .u64 0), (.int .u64 0)] [])⟩, ⟨none, none, false, (.st 6 (.t 6) (.t 36))⟩, ⟨(some 7), none, false, (.mv (.c (.int .i64 150)))⟩])
 .ret)
 .skip))
 (.seq (.reg [⟨(some 37), none, false, (.mv (.t 1))⟩, ⟨(some 38), none, false, (.fa 3 (.t 3))⟩, ⟨none, none, false, (.st 1 (.t 38) (.t 37))⟩])
 (.seq (.seq (.reg [⟨(some 39), none, false, (.mv (.t 1))⟩, ⟨(some 40), none, false, (.bin .eql (.t 39) (.c (.int .u8 4)))⟩])
 (.cond (.t 40)
 (.reg [⟨(some 41), none, false, (.mv (.t 2))⟩, ⟨(some 42), none, false, (.fa 5 (.t 3))⟩, ⟨none, none, false, (.st 1 (.t 42) (.t 41))⟩])
 .skip))
 (.seq (.reg [⟨(some 43), none, false, (.ld true 6 (.t 3))⟩, ⟨none, none, false, (.st 6 (.t 6) (.t 43))⟩, ⟨(some 7), none, false, (.mv (.c (.int .i64 0)))⟩])
 .ret)))))))
theorem l33 : ∃ c, f33.body = some c ∧ liteC prog f33.ntmps c = some q33 := ⟨_, rfl, by kernel_rfl⟩
theorem e33 : prog.funcs[33]? = some f33 := by kernel_rfl
theorem r33 : mapO (resOf prog) f33.results.toList = some [(.c 6 true 6), (.t 7)] := by kernel_rfl
theorem n33 : f33.ntmps = 44 := rfl

def q34 : RQ :=
 (.seq (.reg [⟨(some 4), none, false, (.box (.t 0))⟩, ⟨(some 8), none, false, (.alloc [(.int .u64 0), (.int .i64 0)])⟩, ⟨(some 9), none, false, (.mv (.c (.int .i64 0)))⟩])
 (.seq (.reg [⟨(some 12), none, true, (.ld true 2 (.t 4))⟩, ⟨(some 13), none, true, (.mv (.t 1))⟩, ⟨(some 14), none, true, (.mv (.t 2))⟩, ⟨(some 15), none, true, (.mv (.t 3))⟩, ⟨(some 16), none, false, (.cal 59 [(.t 12), (.t 13), (.t 14), (.t 15)])⟩, ⟨(some 10), none, false, (.mv (.t 16))⟩])
 (.seq (.seq (.reg [⟨(some 17), none, false, (.mv (.t 10))⟩, ⟨(some 18), none, false, (.bin .neq (.t 17) (.c (.int .i64 0)))⟩])
 (.cond (.t 18)
 (.seq (.reg [⟨(some 19), none, false, (.build [(.int .u64 0), (.int .i64 0)] [])⟩, ⟨(some 20), none, false, (.mv (.t 10))⟩, ⟨none, none, false, (.st 2 (.t 8) (.t 19))⟩, ⟨(some 9), none, false, (.mv (.t 20))⟩])
 .ret)
 .skip))
 (.seq (.reg [⟨(some 21), none, true, (.ld true 2 (.t 4))⟩, ⟨(some 22), none, true, (.mv (.t 1))⟩, ⟨(some 23), none, true, (.mv (.t 3))⟩, ⟨(some 24), none, false, (.cal 60 [(.t 21), (.t 22), (.t 23)])⟩, ⟨(some 11), none, false, (.mv (.t 24))⟩])
 (.seq (.seq (.reg [⟨(some 25), none, false, (.mv (.t 11))⟩, ⟨(some 26), none, false, (.mv (.t 2))⟩, ⟨(some 27), none, false, (.bin .eql (.t 25) (.t 26))⟩])
 (.cond (.t 27)
 (.seq (.reg [⟨(some 28), none, false, (.build [(.int .u64 0), (.int .i64 0)] [])⟩, ⟨none, none, false, (.st 2 (.t 8) (.t 28))⟩, ⟨(some 9), none, false, (.mv (.c (.int .i64 160)))⟩])
 .ret)
 .skip))
 (.seq (.reg [⟨(some 29), none, false, (.mv (.t 3))⟩, ⟨(some 30), none, false, (.mv (.t 1))⟩, ⟨(some 31), none, false, (.cv .u64 (.t 30))⟩, ⟨(some 32), none, false, (.bin .quo (.t 29) (.t 31))⟩, ⟨(some 33), none, false, (.mv (.t 11))⟩, ⟨(some 34), none, false, (.bin .add (.t 33) (.c (.int .i64 1)))⟩, ⟨(some 35), none, false, (.build [(.int .u64 0), (.int .i64 0)] [(0, 1, (.t 32)), (1, 1, (.t 34))])⟩, ⟨none, none, false, (.st 2 (.t 8) (.t 35))⟩, ⟨(some 9), none, false, (.mv (.c (.int .i64 0)))⟩])
 .ret))))))
theorem l34 : ∃ c, f34.body = some c ∧ liteC prog f34.ntmps c = some q34 := ⟨_, rfl, by kernel_rfl⟩
theorem e34 : prog.funcs[34]? = some f34 := by kernel_rfl
theorem r34 : mapO (resOf prog) f34.results.toList = some [(.c 8 true 2), (.t 9)] := by kernel_rfl
theorem n34 : f34.ntmps = 36 := rfl

def q35 : RQ :=
 (.seq (.reg [⟨(some 3), none, false, (.box (.t 0))⟩, ⟨(some 6), none, false, (.mv (.c (.int .i64 0)))⟩])
 (.seq (.seq (.reg [⟨(some 7), none, false, (.mv (.t 1))⟩, ⟨(some 8), none, false, (.bin .lss (.t 7) (.c (.int .i64 1)))⟩, ⟨(some 9), none, false, (.mv (.t 8))⟩, ⟨(some 10), (some (9, false)), false, (.mv (.t 1))⟩, ⟨(some 11), (some (9, false)), false, (.bin .gtr (.t 10) (.c (.int .i64 64)))⟩, ⟨(some 12), none, false, (.pick (.t 9) (.c (.bool true)) (.t 11))⟩, ⟨(some 13), none, false, (.mv (.t 12))⟩, ⟨(some 14), (some (13, false)), false, (.mv (.t 2))⟩, ⟨(some 15), (some (13, false)), false, (.bin .lss (.t 14) (.c (.int .i64 1)))⟩, ⟨(some 16), none, false, (.pick (.t 13) (.c (.bool true)) (.t 15))⟩, ⟨(some 17), none, false, (.mv (.t 16))⟩, ⟨(some 18), (some (17, false)), false, (.mv (.t 2))⟩, ⟨(some 19), (some (17, false)), false, (.bin .gtr (.t 18) (.c (.int .i64 16)))⟩, ⟨(some 20), none, false, (.pick (.t 17) (.c (.bool true)) (.t 19))⟩])
 (.cond (.t 20)
 (.seq (.reg [⟨(some 6), none, false, (.mv (.c (.int .i64 2)))⟩])
 .ret)
 .skip))
 (.seq (.seq (.reg [⟨(some 21), none, false, (.fa 0 (.t 3))⟩, ⟨(some 22), none, false, (.ld false 1 (.t 21))⟩, ⟨(some 23), none, false, (.bin .gtr (.t 22) (.c (.int .u64 4611686018427387904)))⟩, ⟨(some 24), none, false, (.mv (.t 23))⟩, ⟨(some 25), (some (24, false)), false, (.fa 1 (.t 3))⟩, ⟨(some 26), (some (24, false)), false, (.ld false 1 (.t 25))⟩, ⟨(some 27), (some (24, false)), false, (.bin .lss (.t 26) (.c (.int .i64 0)))⟩, ⟨(some 28), none, false, (.pick (.t 24) (.c (.bool true)) (.t 27))⟩, ⟨(some 29), none, false, (.mv (.t 28))⟩, ⟨(some 30), (some (29, false)), false, (.fa 1 (.t 3))⟩, ⟨(some 31), (some (29, false)), false, (.ld false 1 (.t 30))⟩, ⟨(some 32), (some (29, false)), false, (.mv (.t 2))⟩, ⟨(some 33), (some (29, false)), false, (.bin .gtr (.t 31) (.t 32))⟩, ⟨(some 34), none, false, (.pick (.t 29) (.c (.bool true)) (.t 33))⟩])
 (.cond (.t 34)
 (.seq (.reg [⟨(some 6), none, false, (.mv (.c (.int .i64 8)))⟩])
 .ret)
 .skip))
 (.seq (.reg [⟨(some 6), none, false, (.mv (.c (.int .i64 0)))⟩])
 .ret))))
theorem l35 : ∃ c, f35.body = some c ∧ liteC prog f35.ntmps c = some q35 := ⟨_, rfl, by kernel_rfl⟩
theorem e35 : prog.funcs[35]? = some f35 := by kernel_rfl
theorem r35 : mapO (resOf prog) f35.results.toList = some [(.t 6)] := by kernel_rfl
theorem n35 : f35.ntmps = 35 := rfl

def q36 : RQ :=
 (.seq (.reg [⟨(some 4), none, false, (.box (.t 0))⟩, ⟨(some 8), none, false, (.mv (.c (.int .i64 0)))⟩, ⟨(some 9), none, false, (.mv (.c (.int .i64 0)))⟩])
 (.seq (.reg [⟨(some 11), none, true, (.ld true 2 (.t 4))⟩, ⟨(some 12), none, true, (.mv (.t 1))⟩, ⟨(some 13), none, true, (.mv (.t 2))⟩, ⟨(some 14), none, true, (.mv (.t 3))⟩, ⟨(some 15), none, false, (.cal 59 [(.t 11), (.t 12), (.t 13), (.t 14)])⟩, ⟨(some 10), none, false, (.mv (.t 15))⟩])
 (.seq (.seq (.reg [⟨(some 16), none, false, (.mv (.t 10))⟩, ⟨(some 17), none, false, (.bin .neq (.t 16) (.c (.int .i64 0)))⟩])
 (.cond (.t 17)
 (.seq (.reg [⟨(some 18), none, false, (.mv (.t 10))⟩, ⟨(some 8), none, false, (.mv (.c (.int .i64 0)))⟩, ⟨(some 9), none, false, (.mv (.t 18))⟩])
 .ret)
 .skip))
 (.seq (.reg [⟨(some 19), none, false, (.mv (.t 2))⟩, ⟨(some 20), none, true, (.ld true 2 (.t 4))⟩, ⟨(some 21), none, true, (.mv (.t 1))⟩, ⟨(some 22), none, true, (.mv (.t 3))⟩, ⟨(some 23), none, false, (.cal 60 [(.t 20), (.t 21), (.t 22)])⟩, ⟨(some 24), none, false, (.bin .sub (.t 19) (.t 23))⟩, ⟨(some 8), none, false, (.mv (.t 24))⟩, ⟨(some 9), none, false, (.mv (.c (.int .i64 0)))⟩])
 .ret))))
theorem l36 : ∃ c, f36.body = some c ∧ liteC prog f36.ntmps c = some q36 := ⟨_, rfl, by kernel_rfl⟩
theorem e36 : prog.funcs[36]? = some f36 := by kernel_rfl
theorem r36 : mapO (resOf prog) f36.results.toList = some [(.t 8), (.t 9)] := by kernel_rfl
theorem n36 : f36.ntmps = 25 := rfl

def q47 : RQ :=
 (.seq (.reg [⟨(some 2), none, false, (.mv (.c (.bool false)))⟩])
 (.seq (.reg [⟨(some 3), none, false, (.mv (.t 0))⟩, ⟨(some 4), none, false, (.bin .geq (.t 3) (.c (.int .u8 1)))⟩, ⟨(some 5), none, false, (.mv (.t 4))⟩, ⟨(some 6), (some (5, true)), false, (.mv (.t 0))⟩, ⟨(some 7), (some (5, true)), false, (.bin .leq (.t 6) (.c (.int .u8 5)))⟩, ⟨(some 8), none, false, (.pick (.t 5) (.t 7) (.c (.bool false)))⟩, ⟨(some 2), none, false, (.mv (.t 8))⟩])
 .ret))
theorem l47 : ∃ c, f47.body = some c ∧ liteC prog f47.ntmps c = some q47 := ⟨_, rfl, by kernel_rfl⟩
theorem e47 : prog.funcs[47]? = some f47 := by kernel_rfl
theorem r47 : mapO (resOf prog) f47.results.toList = some [(.t 2)] := by kernel_rfl
theorem n47 : f47.ntmps = 9 := rfl

def q48 : RQ :=
 (.seq (.reg [⟨(some 4), none, false, (.mv (.c (.bool false)))⟩])
 (.seq (.seq (.reg [⟨(some 5), none, false, (.mv (.t 1))⟩])
 (.block 0 (.seq (.seq (.reg [⟨(some 7), none, false, (.bin .eql (.t 5) (.c (.int .u8 2)))⟩, ⟨(some 6), none, false, (.mv (.t 7))⟩])
 (.cond (.t 6)
 .skip
 (.reg [⟨(some 8), none, false, (.bin .eql (.t 5) (.c (.int .u8 5)))⟩, ⟨(some 6), none, false, (.mv (.t 8))⟩])))
 (.cond (.t 6)
 (.seq (.reg [⟨(some 9), none, false, (.mv (.t 0))⟩, ⟨(some 10), none, false, (.bin .eql (.t 9) (.c (.int .u8 1)))⟩, ⟨(some 4), none, false, (.mv (.t 10))⟩])
 .ret)
 (.seq (.reg [⟨(some 12), none, false, (.bin .eql (.t 5) (.c (.int .u8 3)))⟩, ⟨(some 11), none, false, (.mv (.t 12))⟩])
 (.cond (.t 11)
 (.seq (.reg [⟨(some 13), none, false, (.mv (.t 0))⟩, ⟨(some 14), none, false, (.bin .eql (.t 13) (.c (.int .u8 2)))⟩, ⟨(some 4), none, false, (.mv (.t 14))⟩])
 .ret)
 (.seq (.reg [⟨(some 16), none, false, (.bin .eql (.t 5) (.c (.int .u8 4)))⟩, ⟨(some 15), none, false, (.mv (.t 16))⟩])
 (.cond (.t 15)
 (.seq (.reg [⟨(some 17), none, false, (.mv (.t 0))⟩, ⟨(some 18), none, false, (.bin .eql (.t 17) (.c (.int .u8 3)))⟩, ⟨(some 4), none, false, (.mv (.t 18))⟩])
 .ret)
 .skip))))))))
 (.seq (.reg [⟨(some 4), none, false, (.mv (.c (.bool false)))⟩])
 .ret)))
theorem l48 : ∃ c, f48.body = some c ∧ liteC prog f48.ntmps c = some q48 := ⟨_, rfl, by kernel_rfl⟩
theorem e48 : prog.funcs[48]? = some f48 := by kernel_rfl
theorem r48 : mapO (resOf prog) f48.results.toList = some [(.t 4)] := by kernel_rfl
theorem n48 : f48.ntmps = 19 := rfl

def q49 : RQ :=
 (.seq (.reg [⟨(some 4), none, false, (.mv (.c (.int .u64 0)))⟩])
 (.seq (.reg [⟨(some 5), none, false, (.mv (.t 0))⟩, ⟨(some 6), none, false, (.mv (.t 1))⟩, ⟨(some 7), none, false, (.cv .u64 (.t 6))⟩, ⟨(some 8), none, false, (.bin .quo (.t 5) (.t 7))⟩, ⟨(some 4), none, false, (.mv (.t 8))⟩])
 .ret))
theorem l49 : ∃ c, f49.body = some c ∧ liteC prog f49.ntmps c = some q49 := ⟨_, rfl, by kernel_rfl⟩
theorem e49 : prog.funcs[49]? = some f49 := by kernel_rfl
theorem r49 : mapO (resOf prog) f49.results.toList = some [(.t 4)] := by kernel_rfl
theorem n49 : f49.ntmps = 9 := rfl

def q50 : RQ :=
 (.seq (.reg [⟨(some 6), none, false, (.mv (.c (.bool false)))⟩])
 (.seq (.seq (.reg [⟨(some 9), none, false, (.mv (.t 2))⟩, ⟨(some 10), none, false, (.len (.t 9))⟩, ⟨(some 11), none, false, (.mv (.c (.int .i64 0)))⟩])
 (.block 0 (.loop (.seq (.reg [⟨(some 12), none, false, (.bin .lss (.t 11) (.t 10))⟩])
 (.seq (.cond (.t 12)
 .skip
 (.exit 0))
 (.seq (.block 1 (.seq (.reg [⟨(some 13), none, false, (.ias 1 (.t 9) (.t 11))⟩, ⟨(some 14), none, false, (.ld false 1 (.t 13))⟩, ⟨(some 8), none, false, (.mv (.t 14))⟩])
 (.seq (.reg [⟨(some 15), none, false, (.mv (.t 8))⟩, ⟨(some 16), none, false, (.mv (.t 0))⟩, ⟨(some 17), none, false, (.bin .lss (.t 15) (.t 16))⟩, ⟨(some 18), none, false, (.mv (.t 17))⟩, ⟨(some 19), (some (18, false)), false, (.mv (.t 8))⟩, ⟨(some 20), (some (18, false)), false, (.mv (.t 1))⟩, ⟨(some 21), (some (18, false)), false, (.bin .gtr (.t 19) (.t 20))⟩, ⟨(some 22), none, false, (.pick (.t 18) (.c (.bool true)) (.t 21))⟩])
 (.cond (.t 22)
 (.seq (.reg [⟨(some 6), none, false, (.mv (.c (.bool false)))⟩])
 .ret)
 .skip))))
 (.reg [⟨(some 23), none, false, (.bin .add (.t 11) (.c (.int .i64 1)))⟩, ⟨(some 11), none, false, (.mv (.t 23))⟩])))))))
 (.seq (.reg [⟨(some 6), none, false, (.mv (.c (.bool true)))⟩])
 .ret)))
theorem l50 : ∃ c, f50.body = some c ∧ liteC prog f50.ntmps c = some q50 := ⟨_, rfl, by kernel_rfl⟩
theorem e50 : prog.funcs[50]? = some f50 := by kernel_rfl
theorem r50 : mapO (resOf prog) f50.results.toList = some [(.t 6)] := by kernel_rfl
theorem n50 : f50.ntmps = 24 := rfl

def q56 : RQ :=
 (.seq (.reg [⟨(some 1), none, false, (.box (.t 0))⟩, ⟨(some 2), none, false, (.mv (.c (.bool false)))⟩])
 (.seq (.seq (.reg [⟨(some 3), none, false, (.fa 0 (.t 1))⟩, ⟨(some 4), none, false, (.ld false 1 (.t 3))⟩, ⟨(some 5), none, false, (.bin .lss (.t 4) (.c (.int .i64 1)))⟩, ⟨(some 6), none, false, (.mv (.t 5))⟩, ⟨(some 7), (some (6, false)), false, (.fa 0 (.t 1))⟩, ⟨(some 8), (some (6, false)), false, (.ld false 1 (.t 7))⟩, ⟨(some 9), (some (6, false)), false, (.bin .gtr (.t 8) (.c (.int .i64 64)))⟩, ⟨(some 10), none, false, (.pick (.t 6) (.c (.bool true)) (.t 9))⟩, ⟨(some 11), none, false, (.mv (.t 10))⟩, ⟨(some 12), (some (11, false)), false, (.fa 1 (.t 1))⟩, ⟨(some 13), (some (11, false)), false, (.ld false 1 (.t 12))⟩, ⟨(some 14), (some (11, false)), false, (.bin .lss (.t 13) (.c (.int .i64 0)))⟩, ⟨(some 15), none, false, (.pick (.t 11) (.c (.bool true)) (.t 14))⟩, ⟨(some 16), none, false, (.mv (.t 15))⟩, ⟨(some 17), (some (16, false)), false, (.fa 1 (.t 1))⟩, ⟨(some 18), (some (16, false)), false, (.ld false 1 (.t 17))⟩, ⟨(some 19), (some (16, false)), false, (.bin .gtr (.t 18) (.c (.int .i64 2)))⟩, ⟨(some 20), none, false, (.pick (.t 16) (.c (.bool true)) (.t 19))⟩, ⟨(some 21), none, false, (.mv (.t 20))⟩, ⟨(some 22), (some (21, false)), false, (.fa 2 (.t 1))⟩, ⟨(some 23), (some (21, false)), false, (.ld false 1 (.t 22))⟩, ⟨(some 24), (some (21, false)), false, (.bin .lss (.t 23) (.c (.int .i64 0)))⟩, ⟨(some 25), none, false, (.pick (.t 21) (.c (.bool true)) (.t 24))⟩, ⟨(some 26), none, false, (.mv (.t 25))⟩, ⟨(some 27), (some (26, false)), false, (.fa 2 (.t 1))⟩, ⟨(some 28), (some (26, false)), false, (.ld false 1 (.t 27))⟩, ⟨(some 29), (some (26, false)), false, (.bin .gtr (.t 28) (.c (.int .i64 2)))⟩, ⟨(some 30), none, false, (.pick (.t 26) (.c (.bool true)) (.t 29))⟩, ⟨(some 31), none, false, (.mv (.t 30))⟩, ⟨(some 32), (some (31, false)), false, (.fa 3 (.t 1))⟩, ⟨(some 33), (some (31, false)), false, (.ld false 1 (.t 32))⟩, ⟨(some 34), (some (31, false)), false, (.bin .lss (.t 33) (.c (.int .u8 1)))⟩, ⟨(some 35), none, false, (.pick (.t 31) (.c (.bool true)) (.t 34))⟩, ⟨(some 36), none, false, (.mv (.t 35))⟩, ⟨(some 37), (some (36, false)), false, (.fa 3 (.t 1))⟩, ⟨(some 38), (some (36, false)), false, (.ld false 1 (.t 37))⟩, ⟨(some 39), (some (36, false)), false, (.bin .gtr (.t 38) (.c (.int .u8 5)))⟩, ⟨(some 40), none, false, (.pick (.t 36) (.c (.bool true)) (.t 39))⟩, ⟨(some 41), none, false, (.mv (.t 40))⟩, ⟨(some 42), (some (41, false)), false, (.fa 4 (.t 1))⟩, ⟨(some 43), (some (41, false)), false, (.ld false 1 (.t 42))⟩, ⟨(some 44), (some (41, false)), false, (.bin .gtr (.t 43) (.c (.int .u64 4611686018427387904)))⟩, ⟨(some 45), none, false, (.pick (.t 41) (.c (.bool true)) (.t 44))⟩])
 (.cond (.t 45)
 (.seq (.reg [⟨(some 2), none, false, (.mv (.c (.bool false)))⟩])
 .ret)
 .skip))
 (.seq (.seq (.reg [⟨(some 46), none, false, (.fa 3 (.t 1))⟩, ⟨(some 47), none, false, (.ld false 1 (.t 46))⟩, ⟨(some 48), none, false, (.bin .eql (.t 47) (.c (.int .u8 4)))⟩])
 (.cond (.t 48)
 (.seq (.reg [⟨(some 49), none, false, (.fa 5 (.t 1))⟩, ⟨(some 50), none, false, (.ld false 1 (.t 49))⟩, ⟨(some 51), none, false, (.bin .geq (.t 50) (.c (.int .u64 1)))⟩, ⟨(some 52), none, false, (.mv (.t 51))⟩, ⟨(some 53), (some (52, true)), false, (.fa 5 (.t 1))⟩, ⟨(some 54), (some (52, true)), false, (.ld false 1 (.t 53))⟩, ⟨(some 55), (some (52, true)), false, (.bin .leq (.t 54) (.c (.int .u64 4611686018427387904)))⟩, ⟨(some 56), none, false, (.pick (.t 52) (.t 55) (.c (.bool false)))⟩, ⟨(some 2), none, false, (.mv (.t 56))⟩])
 .ret)
 .skip))
 (.seq (.reg [⟨(some 57), none, false, (.fa 5 (.t 1))⟩, ⟨(some 58), none, false, (.ld false 1 (.t 57))⟩, ⟨(some 59), none, false, (.bin .eql (.t 58) (.c (.int .u64 0)))⟩, ⟨(some 2), none, false, (.mv (.t 59))⟩])
 .ret))))
theorem l56 : ∃ c, f56.body = some c ∧ liteC prog f56.ntmps c = some q56 := ⟨_, rfl, by kernel_rfl⟩
theorem e56 : prog.funcs[56]? = some f56 := by kernel_rfl
theorem r56 : mapO (resOf prog) f56.results.toList = some [(.t 2)] := by kernel_rfl
theorem n56 : f56.ntmps = 60 := rfl

def q57 : RQ :=
 (.seq (.reg [⟨(some 1), none, false, (.box (.t 0))⟩, ⟨(some 2), none, false, (.mv (.c (.bool false)))⟩])
 (.seq (.seq (.reg [⟨(some 3), none, false, (.fa 3 (.t 1))⟩, ⟨(some 4), none, false, (.ld false 1 (.t 3))⟩, ⟨(some 5), none, false, (.bin .eql (.t 4) (.c (.int .u8 4)))⟩])
 (.cond (.t 5)
 (.seq (.reg [⟨(some 6), none, false, (.fa 5 (.t 1))⟩, ⟨(some 7), none, false, (.ld false 1 (.t 6))⟩, ⟨(some 8), none, false, (.bin .geq (.t 7) (.c (.int .u64 1)))⟩, ⟨(some 9), none, false, (.mv (.t 8))⟩, ⟨(some 10), (some (9, true)), false, (.fa 5 (.t 1))⟩, ⟨(some 11), (some (9, true)), false, (.ld false 1 (.t 10))⟩, ⟨(some 12), (some (9, true)), false, (.bin .leq (.t 11) (.c (.int .u64 4611686018427387904)))⟩, ⟨(some 13), none, false, (.pick (.t 9) (.t 12) (.c (.bool false)))⟩, ⟨(some 2), none, false, (.mv (.t 13))⟩])
 .ret)
 .skip))
 (.seq (.reg [⟨(some 14), none, false, (.fa 5 (.t 1))⟩, ⟨(some 15), none, false, (.ld false 1 (.t 14))⟩, ⟨(some 16), none, false, (.bin .eql (.t 15) (.c (.int .u64 0)))⟩, ⟨(some 2), none, false, (.mv (.t 16))⟩])
 .ret)))
theorem l57 : ∃ c, f57.body = some c ∧ liteC prog f57.ntmps c = some q57 := ⟨_, rfl, by kernel_rfl⟩
theorem e57 : prog.funcs[57]? = some f57 := by kernel_rfl
theorem r57 : mapO (resOf prog) f57.results.toList = some [(.t 2)] := by kernel_rfl
theorem n57 : f57.ntmps = 17 := rfl

def q58 : RQ :=
 (.seq (.reg [⟨(some 4), none, false, (.mv (.c (.bool false)))⟩])
 (.seq (.reg [⟨(some 5), none, false, (.mv (.t 0))⟩, ⟨(some 6), none, false, (.bin .eql (.t 5) (.c (.int .u8 1)))⟩, ⟨(some 7), none, false, (.mv (.t 6))⟩, ⟨(some 8), (some (7, true)), false, (.mv (.t 1))⟩, ⟨(some 9), (some (7, true)), false, (.bin .eql (.t 8) (.c (.int .u8 2)))⟩, ⟨(some 10), none, false, (.pick (.t 7) (.t 9) (.c (.bool false)))⟩, ⟨(some 11), none, false, (.mv (.t 10))⟩, ⟨(some 12), (some (11, false)), false, (.mv (.t 0))⟩, ⟨(some 13), (some (11, false)), false, (.bin .eql (.t 12) (.c (.int .u8 1)))⟩, ⟨(some 14), (some (11, false)), false, (.mv (.t 13))⟩, ⟨(some 15), (some (14, true)), false, (.mv (.t 1))⟩, ⟨(some 16), (some (14, true)), false, (.bin .eql (.t 15) (.c (.int .u8 5)))⟩, ⟨(some 17), (some (11, false)), false, (.pick (.t 14) (.t 16) (.c (.bool false)))⟩, ⟨(some 18), none, false, (.pick (.t 11) (.c (.bool true)) (.t 17))⟩, ⟨(some 19), none, false, (.mv (.t 18))⟩, ⟨(some 20), (some (19, false)), false, (.mv (.t 0))⟩, ⟨(some 21), (some (19, false)), false, (.bin .eql (.t 20) (.c (.int .u8 2)))⟩, ⟨(some 22), (some (19, false)), false, (.mv (.t 21))⟩, ⟨(some 23), (some (22, true)), false, (.mv (.t 1))⟩, ⟨(some 24), (some (22, true)), false, (.bin .eql (.t 23) (.c (.int .u8 3)))⟩, ⟨(some 25), (some (19, false)), false, (.pick (.t 22) (.t 24) (.c (.bool false)))⟩, ⟨(some 26), none, false, (.pick (.t 19) (.c (.bool true)) (.t 25))⟩, ⟨(some 27), none, false, (.mv (.t 26))⟩, ⟨(some 28), (some (27, false)), false, (.mv (.t 0))⟩, ⟨(some 29), (some (27, false)), false, (.bin .eql (.t 28) (.c (.int .u8 3)))⟩, ⟨(some 30), (some (27, false)), false, (.mv (.t 29))⟩, ⟨(some 31), (some (30, true)), false, (.mv (.t 1))⟩, ⟨(some 32), (some (30, true)), false, (.bin .eql (.t 31) (.c (.int .u8 4)))⟩, ⟨(some 33), (some (27, false)), false, (.pick (.t 30) (.t 32) (.c (.bool false)))⟩, ⟨(some 34), none, false, (.pick (.t 27) (.c (.bool true)) (.t 33))⟩, ⟨(some 4), none, false, (.mv (.t 34))⟩])
 .ret))
theorem l58 : ∃ c, f58.body = some c ∧ liteC prog f58.ntmps c = some q58 := ⟨_, rfl, by kernel_rfl⟩
theorem e58 : prog.funcs[58]? = some f58 := by kernel_rfl
theorem r58 : mapO (resOf prog) f58.results.toList = some [(.t 4)] := by kernel_rfl
theorem n58 : f58.ntmps = 35 := rfl

def q59 : RQ :=
 (.seq (.reg [⟨(some 4), none, false, (.box (.t 0))⟩, ⟨(some 8), none, false, (.mv (.c (.int .i64 0)))⟩])
 (.seq (.reg [⟨(some 10), none, true, (.ld true 2 (.t 4))⟩, ⟨(some 11), none, true, (.mv (.t 1))⟩, ⟨(some 12), none, true, (.mv (.t 2))⟩, ⟨(some 13), none, false, (.cal 35 [(.t 10), (.t 11), (.t 12)])⟩, ⟨(some 9), none, false, (.mv (.t 13))⟩])
 (.seq (.seq (.reg [⟨(some 14), none, false, (.mv (.t 9))⟩, ⟨(some 15), none, false, (.bin .eql (.t 14) (.c (.int .i64 0)))⟩, ⟨(some 16), none, false, (.mv (.t 15))⟩, ⟨(some 17), (some (16, true)), false, (.mv (.t 3))⟩, ⟨(some 18), (some (16, true)), false, (.bin .gtr (.t 17) (.c (.int .u64 4611686018427387904)))⟩, ⟨(some 19), none, false, (.pick (.t 16) (.t 18) (.c (.bool false)))⟩])
 (.cond (.t 19)
 (.seq (.reg [⟨(some 8), none, false, (.mv (.c (.int .i64 2)))⟩])
 .ret)
 .skip))
 (.seq (.reg [⟨(some 20), none, false, (.mv (.t 9))⟩, ⟨(some 8), none, false, (.mv (.t 20))⟩])
 .ret))))
theorem l59 : ∃ c, f59.body = some c ∧ liteC prog f59.ntmps c = some q59 := ⟨_, rfl, by kernel_rfl⟩
theorem e59 : prog.funcs[59]? = some f59 := by kernel_rfl
theorem r59 : mapO (resOf prog) f59.results.toList = some [(.t 8)] := by kernel_rfl
theorem n59 : f59.ntmps = 21 := rfl

def q60 : RQ :=
 (.seq (.reg [⟨(some 3), none, false, (.box (.t 0))⟩, ⟨(some 6), none, false, (.mv (.c (.int .i64 0)))⟩])
 (.seq (.seq (.drw [⟨(some 7), none, false, (.mv (.t 2))⟩, ⟨(some 8), none, false, (.mv (.t 1))⟩, ⟨(some 9), none, false, (.cv .u64 (.t 8))⟩, ⟨(some 10), none, false, (.bin .quo (.t 7) (.t 9))⟩, ⟨(some 11), none, false, (.fa 0 (.t 3))⟩, ⟨(some 12), none, false, (.ld false 1 (.t 11))⟩, ⟨(some 13), none, false, (.bin .eql (.t 10) (.t 12))⟩] [])
 (.cond (.t 13)
 (.seq (.reg [⟨(some 14), none, false, (.fa 1 (.t 3))⟩, ⟨(some 15), none, false, (.ld false 1 (.t 14))⟩, ⟨(some 6), none, false, (.mv (.t 15))⟩])
 .ret)
 .skip))
 (.seq (.reg [⟨(some 6), none, false, (.mv (.c (.int .i64 0)))⟩])
 .ret)))
theorem l60 : ∃ c, f60.body = some c ∧ liteC prog f60.ntmps c = some q60 := ⟨_, rfl, by kernel_rfl⟩
theorem e60 : prog.funcs[60]? = some f60 := by kernel_rfl
theorem r60 : mapO (resOf prog) f60.results.toList = some [(.t 6)] := by kernel_rfl
theorem n60 : f60.ntmps = 16 := rfl

theorem mixed : prog.follows .mixedOrders = true := by kernel_rfl
end Go.Proofs.Ytcgodcpgdnfjpaa