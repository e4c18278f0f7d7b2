/-
  The looked-up code of functions of the program. Facts of the program alone, no condition.
-/
import Derived.Test.YtihkijccnimgbaaOrRp
import Derived.Test.YtihkijccnimgbaaProg
import Derived.Tactics
namespace Go.Proofs.Ytihkijccnimgbaa
set_option linter.unusedSimpArgs false
set_option linter.unusedVariables false
set_option linter.unnecessarySimpa false
set_option linter.unusedSectionVars false
open Go.Proofs.Try
open Go.Proofs.Ytihkijccnimgbaa.Ai

def q39 : RQ :=
 (.seq (.reg [⟨(some 2), none, false, (.box (.t 0))⟩, ⟨(some 3), none, false, (.box (.t 1))⟩, ⟨(some 4), none, false, (.mv (.c (.bool false)))⟩])
 (.seq (.reg [⟨(some 5), none, false, (.fa 0 (.t 2))⟩, ⟨(some 6), none, true, (.ld true 4 (.t 5))⟩, ⟨(some 7), none, false, (.fa 0 (.t 3))⟩, ⟨(some 8), none, true, (.ld true 4 (.t 7))⟩, ⟨(some 9), none, false, (.cal 41 [(.t 6), (.t 8)])⟩, ⟨(some 10), none, false, (.mv (.t 9))⟩, ⟨(some 11), (some (10, true)), false, (.fa 4 (.t 2))⟩, ⟨(some 12), (some (10, true)), false, (.ld false 1 (.t 11))⟩, ⟨(some 13), (some (10, true)), false, (.fa 4 (.t 3))⟩, ⟨(some 14), (some (10, true)), false, (.ld false 1 (.t 13))⟩, ⟨(some 15), (some (10, true)), false, (.bin .eql (.t 12) (.t 14))⟩, ⟨(some 16), none, false, (.pick (.t 10) (.t 15) (.c (.bool false)))⟩, ⟨(some 17), none, false, (.mv (.t 16))⟩, ⟨(some 18), (some (17, true)), false, (.fa 5 (.t 2))⟩, ⟨(some 19), (some (17, true)), false, (.ld true 6 (.t 18))⟩, ⟨(some 20), (some (17, true)), false, (.fa 5 (.t 3))⟩, ⟨(some 21), (some (17, true)), false, (.ld true 6 (.t 20))⟩, ⟨(some 22), (some (17, true)), false, (.eqv false [(0, (.i .i64)), (1, (.i .i64)), (2, (.i .i64)), (3, (.i .u8)), (4, (.i .u64)), (5, (.i .u64))] (.t 19) (.t 21))⟩, ⟨(some 23), none, false, (.pick (.t 17) (.t 22) (.c (.bool false)))⟩, ⟨(some 24), none, false, (.mv (.t 23))⟩, ⟨(some 25), (some (24, true)), false, (.fa 11 (.t 2))⟩, ⟨(some 26), (some (24, true)), false, (.ld true 6 (.t 25))⟩, ⟨(some 27), (some (24, true)), false, (.fa 11 (.t 3))⟩, ⟨(some 28), (some (24, true)), false, (.ld true 6 (.t 27))⟩, ⟨(some 29), (some (24, true)), false, (.eqv false [(0, (.i .i64)), (1, (.i .i64)), (2, (.i .i64)), (3, (.i .i64)), (4, (.i .i64)), (5, (.i .i64))] (.t 26) (.t 28))⟩, ⟨(some 30), none, false, (.pick (.t 24) (.t 29) (.c (.bool false)))⟩, ⟨(some 31), none, false, (.mv (.t 30))⟩, ⟨(some 32), (some (31, true)), false, (.fa 17 (.t 2))⟩, ⟨(some 33), (some (31, true)), false, (.ld false 1 (.t 32))⟩, ⟨(some 34), (some (31, true)), false, (.fa 17 (.t 3))⟩, ⟨(some 35), (some (31, true)), false, (.ld false 1 (.t 34))⟩, ⟨(some 36), (some (31, true)), false, (.bin .eql (.t 33) (.t 35))⟩, ⟨(some 37), none, false, (.pick (.t 31) (.t 36) (.c (.bool false)))⟩, ⟨(some 4), none, false, (.mv (.t 37))⟩])
 .ret))
theorem l39 : ∃ c, f39.body = some c ∧ liteC prog f39.ntmps c = some q39 := ⟨_, rfl, by kernel_rfl⟩
theorem e39 : prog.funcs[39]? = some f39 := by kernel_rfl
theorem r39 : mapO (resOf prog) f39.results.toList = some [(.t 4)] := by kernel_rfl
theorem n39 : f39.ntmps = 38 := rfl
def T39 : TE := .fn q39 [(.t 4)] 38
theorem te39 : TEOK prog 39 T39 := te_fn e39 l39 rfl r39 n39

def q40 : RQ :=
 (.seq (.reg [⟨(some 3), none, false, (.box (.t 0))⟩, ⟨(some 4), none, false, (.box (.t 1))⟩, ⟨(some 5), none, false, (.box (.t 2))⟩, ⟨(some 6), none, false, (.alloc [.nils, .nils, (.int .u64 0), (.int .i64 0), (.int .i64 0), (.int .i64 0), (.int .i64 0), (.int .i64 0), (.int .u8 0), (.int .u64 0), (.int .u64 0), (.int .i64 0), (.int .i64 0), (.int .i64 0), (.int .i64 0), (.int .i64 0), (.int .i64 0), (.int .i64 0)])⟩])
 (.seq (.reg [⟨(some 8), none, false, (.build [.nils, .nils, (.int .u64 0), (.int .i64 0), (.int .i64 0), (.int .i64 0), (.int .i64 0), (.int .i64 0), (.int .u8 0), (.int .u64 0), (.int .u64 0), (.int .i64 0), (.int .i64 0), (.int .i64 0), (.int .i64 0), (.int .i64 0), (.int .i64 0), (.int .i64 0)] [])⟩, ⟨(some 7), none, false, (.alloc [.nils, .nils, (.int .u64 0), (.int .i64 0), (.int .i64 0), (.int .i64 0), (.int .i64 0), (.int .i64 0), (.int .u8 0), (.int .u64 0), (.int .u64 0), (.int .i64 0), (.int .i64 0), (.int .i64 0), (.int .i64 0), (.int .i64 0), (.int .i64 0), (.int .i64 0)])⟩, ⟨none, none, false, (.st 18 (.t 7) (.t 8))⟩])
 (.seq (.seq (.reg [⟨(some 9), none, false, (.fa 0 (.t 5))⟩, ⟨(some 10), none, false, (.ld false 1 (.t 9))⟩, ⟨(some 11), none, false, (.bin .rem (.t 10) (.c (.int .u8 7)))⟩])
 (.block 0 (.seq (.reg [⟨(some 13), none, false, (.bin .eql (.t 11) (.c (.int .u8 0)))⟩, ⟨(some 12), none, false, (.mv (.t 13))⟩])
 (.cond (.t 12)
 (.reg [⟨(some 15), none, true, (.ld true 8 (.t 3))⟩, ⟨(some 16), none, true, (.ld true 4 (.t 4))⟩, ⟨(some 17), none, false, (.fa 1 (.t 5))⟩, ⟨(some 18), none, true, (.ld false 1 (.t 17))⟩, ⟨(some 19), none, false, (.fa 2 (.t 5))⟩, ⟨(some 20), none, true, (.ld false 1 (.t 19))⟩, ⟨(some 21), none, false, (.fa 4 (.t 5))⟩, ⟨(some 22), none, true, (.ld false 1 (.t 21))⟩, ⟨(some 23), none, false, (.cal 61 [(.t 15), (.t 16), (.t 18), (.t 20), (.t 22)])⟩, ⟨(some 14), none, false, (.mv (.t 23))⟩, ⟨(some 24), none, false, (.ext (.t 14) 0)⟩, ⟨(some 25), none, false, (.ext (.t 14) 1)⟩, ⟨(some 26), none, false, (.ext (.t 14) 2)⟩, ⟨(some 27), none, false, (.fa 0 (.t 7))⟩, ⟨none, none, false, (.st 4 (.t 27) (.t 24))⟩, ⟨(some 28), none, false, (.fa 4 (.t 7))⟩, ⟨none, none, false, (.st 1 (.t 28) (.t 25))⟩, ⟨(some 29), none, false, (.fa 17 (.t 7))⟩, ⟨none, none, false, (.st 1 (.t 29) (.t 26))⟩])
 (.seq (.reg [⟨(some 31), none, false, (.bin .eql (.t 11) (.c (.int .u8 1)))⟩, ⟨(some 30), none, false, (.mv (.t 31))⟩])
 (.cond (.t 30)
 (.reg [⟨(some 33), none, true, (.ld true 8 (.t 3))⟩, ⟨(some 34), none, true, (.ld true 4 (.t 4))⟩, ⟨(some 35), none, false, (.fa 3 (.t 5))⟩, ⟨(some 36), none, true, (.ld false 1 (.t 35))⟩, ⟨(some 37), none, false, (.cal 62 [(.t 33), (.t 34), (.t 36)])⟩, ⟨(some 32), none, false, (.mv (.t 37))⟩, ⟨(some 38), none, false, (.ext (.t 32) 0)⟩, ⟨(some 39), none, false, (.ext (.t 32) 1)⟩, ⟨(some 40), none, false, (.fa 0 (.t 7))⟩, ⟨none, none, false, (.st 4 (.t 40) (.t 38))⟩, ⟨(some 41), none, false, (.fa 17 (.t 7))⟩, ⟨none, none, false, (.st 1 (.t 41) (.t 39))⟩])
 (.seq (.reg [⟨(some 43), none, false, (.bin .eql (.t 11) (.c (.int .u8 2)))⟩, ⟨(some 42), none, false, (.mv (.t 43))⟩])
 (.cond (.t 42)
 (.reg [⟨(some 45), none, true, (.ld true 8 (.t 3))⟩, ⟨(some 46), none, true, (.ld true 4 (.t 4))⟩, ⟨(some 47), none, false, (.cal 63 [(.t 45), (.t 46)])⟩, ⟨(some 44), none, false, (.mv (.t 47))⟩, ⟨(some 48), none, false, (.ext (.t 44) 0)⟩, ⟨(some 49), none, false, (.ext (.t 44) 1)⟩, ⟨(some 50), none, false, (.ext (.t 44) 2)⟩, ⟨(some 51), none, false, (.fa 0 (.t 7))⟩, ⟨none, none, false, (.st 4 (.t 51) (.t 48))⟩, ⟨(some 52), none, false, (.fa 4 (.t 7))⟩, ⟨none, none, false, (.st 1 (.t 52) (.t 49))⟩, ⟨(some 53), none, false, (.fa 17 (.t 7))⟩, ⟨none, none, false, (.st 1 (.t 53) (.t 50))⟩])
 (.seq (.reg [⟨(some 55), none, false, (.bin .eql (.t 11) (.c (.int .u8 3)))⟩, ⟨(some 54), none, false, (.mv (.t 55))⟩])
 (.cond (.t 54)
 (.reg [⟨(some 57), none, true, (.ld true 8 (.t 3))⟩, ⟨(some 58), none, true, (.ld true 4 (.t 4))⟩, ⟨(some 59), none, false, (.fa 3 (.t 5))⟩, ⟨(some 60), none, true, (.ld false 1 (.t 59))⟩, ⟨(some 61), none, false, (.cal 64 [(.t 57), (.t 58), (.t 60)])⟩, ⟨(some 56), none, false, (.mv (.t 61))⟩, ⟨(some 62), none, false, (.ext (.t 56) 0)⟩, ⟨(some 63), none, false, (.ext (.t 56) 1)⟩, ⟨(some 64), none, false, (.fa 0 (.t 7))⟩, ⟨none, none, false, (.st 4 (.t 64) (.t 62))⟩, ⟨(some 65), none, false, (.fa 17 (.t 7))⟩, ⟨none, none, false, (.st 1 (.t 65) (.t 63))⟩])
 (.seq (.reg [⟨(some 67), none, false, (.bin .eql (.t 11) (.c (.int .u8 4)))⟩, ⟨(some 66), none, false, (.mv (.t 67))⟩])
 (.cond (.t 66)
 (.reg [⟨(some 69), none, true, (.ld true 8 (.t 3))⟩, ⟨(some 70), none, true, (.ld true 4 (.t 4))⟩, ⟨(some 71), none, false, (.fa 3 (.t 5))⟩, ⟨(some 72), none, true, (.ld false 1 (.t 71))⟩, ⟨(some 73), none, false, (.fa 4 (.t 5))⟩, ⟨(some 74), none, true, (.ld false 1 (.t 73))⟩, ⟨(some 75), none, false, (.cal 65 [(.t 69), (.t 70), (.t 72), (.t 74)])⟩, ⟨(some 68), none, false, (.mv (.t 75))⟩, ⟨(some 76), none, false, (.ext (.t 68) 0)⟩, ⟨(some 77), none, false, (.ext (.t 68) 1)⟩, ⟨(some 78), none, false, (.fa 0 (.t 7))⟩, ⟨none, none, false, (.st 4 (.t 78) (.t 76))⟩, ⟨(some 79), none, false, (.fa 17 (.t 7))⟩, ⟨none, none, false, (.st 1 (.t 79) (.t 77))⟩])
 (.seq (.reg [⟨(some 81), none, false, (.bin .eql (.t 11) (.c (.int .u8 5)))⟩, ⟨(some 80), none, false, (.mv (.t 81))⟩])
 (.cond (.t 80)
 (.reg [⟨(some 83), none, true, (.ld true 8 (.t 3))⟩, ⟨(some 84), none, true, (.ld true 4 (.t 4))⟩, ⟨(some 85), none, false, (.fa 3 (.t 5))⟩, ⟨(some 86), none, true, (.ld false 1 (.t 85))⟩, ⟨(some 87), none, false, (.cal 66 [(.t 83), (.t 84), (.t 86)])⟩, ⟨(some 82), none, false, (.mv (.t 87))⟩, ⟨(some 88), none, false, (.ext (.t 82) 0)⟩, ⟨(some 89), none, false, (.ext (.t 82) 1)⟩, ⟨(some 90), none, false, (.fa 5 (.t 7))⟩, ⟨none, none, false, (.st 6 (.t 90) (.t 88))⟩, ⟨(some 91), none, false, (.fa 17 (.t 7))⟩, ⟨none, none, false, (.st 1 (.t 91) (.t 89))⟩])
 (.seq (.reg [⟨(some 93), none, false, (.bin .eql (.t 11) (.c (.int .u8 6)))⟩, ⟨(some 92), none, false, (.mv (.t 93))⟩])
 (.cond (.t 92)
 (.reg [⟨(some 95), none, true, (.ld true 8 (.t 3))⟩, ⟨(some 96), none, true, (.ld true 4 (.t 4))⟩, ⟨(some 97), none, false, (.cal 67 [(.t 95), (.t 96)])⟩, ⟨(some 94), none, false, (.mv (.t 97))⟩, ⟨(some 98), none, false, (.ext (.t 94) 0)⟩, ⟨(some 99), none, false, (.ext (.t 94) 1)⟩, ⟨(some 100), none, false, (.fa 11 (.t 7))⟩, ⟨none, none, false, (.st 6 (.t 100) (.t 98))⟩, ⟨(some 101), none, false, (.fa 17 (.t 7))⟩, ⟨none, none, false, (.st 1 (.t 101) (.t 99))⟩])
 .skip))))))))))))))))
 (.seq (.reg [⟨(some 102), none, false, (.ld true 18 (.t 7))⟩, ⟨none, none, false, (.st 18 (.t 6) (.t 102))⟩])
 .ret))))
theorem l40 : ∃ c, f40.body = some c ∧ liteC prog f40.ntmps c = some q40 := ⟨_, rfl, by kernel_rfl⟩
theorem e40 : prog.funcs[40]? = some f40 := by kernel_rfl
theorem r40 : mapO (resOf prog) f40.results.toList = some [(.c 6 true 18)] := by kernel_rfl
theorem n40 : f40.ntmps = 103 := rfl
def T40 : TE := .fn q40 [(.c 6 true 18)] 103
theorem te40 : TEOK prog 40 T40 := te_fn e40 l40 rfl r40 n40

def q41 : RQ :=
 (.seq (.reg [⟨(some 2), none, false, (.box (.t 0))⟩, ⟨(some 3), none, false, (.box (.t 1))⟩, ⟨(some 4), none, false, (.mv (.c (.bool false)))⟩])
 (.seq (.seq (.reg [⟨(some 6), none, false, (.fa 0 (.t 2))⟩, ⟨(some 7), none, false, (.ld false 1 (.t 6))⟩, ⟨(some 8), none, false, (.len (.t 7))⟩, ⟨(some 9), none, false, (.fa 0 (.t 3))⟩, ⟨(some 10), none, false, (.ld false 1 (.t 9))⟩, ⟨(some 11), none, false, (.len (.t 10))⟩, ⟨(some 12), none, false, (.bin .neq (.t 8) (.t 11))⟩, ⟨(some 13), none, false, (.mv (.t 12))⟩, ⟨(some 14), (some (13, false)), false, (.fa 1 (.t 2))⟩, ⟨(some 15), (some (13, false)), true, (.ld false 1 (.t 14))⟩, ⟨(some 16), (some (13, false)), false, (.fa 1 (.t 3))⟩, ⟨(some 17), (some (13, false)), true, (.ld false 1 (.t 16))⟩, ⟨(some 18), (some (13, false)), false, (.cal 68 [(.t 15), (.t 17)])⟩, ⟨(some 19), (some (13, false)), false, (.not (.t 18))⟩, ⟨(some 20), none, false, (.pick (.t 13) (.c (.bool true)) (.t 19))⟩, ⟨(some 21), none, false, (.mv (.t 20))⟩, ⟨(some 22), (some (21, false)), false, (.fa 2 (.t 2))⟩, ⟨(some 23), (some (21, false)), false, (.ld true 2 (.t 22))⟩, ⟨(some 24), (some (21, false)), false, (.fa 2 (.t 3))⟩, ⟨(some 25), (some (21, false)), false, (.ld true 2 (.t 24))⟩, ⟨(some 26), (some (21, false)), false, (.eqv true [(0, (.i .u64)), (1, (.i .i64))] (.t 23) (.t 25))⟩, ⟨(some 27), none, false, (.pick (.t 21) (.c (.bool true)) (.t 26))⟩])
 (.cond (.t 27)
 (.seq (.reg [⟨(some 4), none, false, (.mv (.c (.bool false)))⟩])
 .ret)
 .skip))
 (.seq (.seq (.reg [⟨(some 5), none, false, (.mv (.c (.int .i64 0)))⟩])
 (.block 0 (.loop (.seq (.seq (.reg [⟨(some 28), none, false, (.mv (.t 5))⟩, ⟨(some 29), none, false, (.fa 0 (.t 2))⟩, ⟨(some 30), none, false, (.ld false 1 (.t 29))⟩, ⟨(some 31), none, false, (.len (.t 30))⟩, ⟨(some 32), none, false, (.bin .lss (.t 28) (.t 31))⟩])
 (.cond (.t 32)
 .skip
 (.exit 0)))
 (.seq (.block 1 (.seq (.drw [(false, ⟨(some 35), none, false, (.fa 0 (.t 2))⟩), (false, ⟨(some 36), none, false, (.ld false 1 (.t 35))⟩), (false, ⟨(some 37), none, false, (.mv (.t 5))⟩), (false, ⟨(some 38), none, false, (.ias 6 (.t 36) (.t 37))⟩), (false, ⟨(some 39), none, false, (.ld true 6 (.t 38))⟩), (false, ⟨(some 40), none, false, (.fa 0 (.t 3))⟩), (false, ⟨(some 41), none, false, (.ld false 1 (.t 40))⟩), (false, ⟨(some 42), none, false, (.mv (.t 5))⟩), (false, ⟨(some 43), none, false, (.ias 6 (.t 41) (.t 42))⟩), (false, ⟨(some 44), none, false, (.ld true 6 (.t 43))⟩), (false, ⟨(some 45), none, false, (.eqv true [(0, (.i .i64)), (1, (.i .i64)), (2, (.i .i64)), (3, (.i .u8)), (4, (.i .u64)), (5, (.i .u64))] (.t 39) (.t 44))⟩)] [])
 (.cond (.t 45)
 (.seq (.reg [⟨(some 4), none, false, (.mv (.c (.bool false)))⟩])
 .ret)
 .skip)))
 (.reg [⟨(some 33), none, false, (.mv (.t 5))⟩, ⟨(some 34), none, false, (.bin .add (.t 33) (.c (.int .i64 1)))⟩, ⟨(some 5), none, false, (.mv (.t 34))⟩]))))))
 (.seq (.reg [⟨(some 4), none, false, (.mv (.c (.bool true)))⟩])
 .ret))))
theorem l41 : ∃ c, f41.body = some c ∧ liteC prog f41.ntmps c = some q41 := ⟨_, rfl, by kernel_rfl⟩
theorem e41 : prog.funcs[41]? = some f41 := by kernel_rfl
theorem r41 : mapO (resOf prog) f41.results.toList = some [(.t 4)] := by kernel_rfl
theorem n41 : f41.ntmps = 46 := rfl
def T41 : TE := .fn q41 [(.t 4)] 46
theorem te41 : TEOK prog 41 T41 := te_fn e41 l41 rfl r41 n41

def q42 : RQ :=
 (.seq (.reg [⟨(some 1), none, false, (.box (.t 0))⟩, ⟨(some 2), none, false, (.mv (.c (.bool false)))⟩])
 (.seq (.seq (.reg [⟨(some 3), none, false, (.fa 0 (.t 1))⟩, ⟨(some 4), none, false, (.ld false 1 (.t 3))⟩, ⟨(some 5), none, true, (.len (.t 4))⟩, ⟨(some 6), none, false, (.cal 69 [(.t 5), (.c (.int .i64 3))])⟩, ⟨(some 7), none, false, (.not (.t 6))⟩, ⟨(some 8), none, false, (.mv (.t 7))⟩, ⟨(some 9), (some (8, false)), false, (.fa 1 (.t 1))⟩, ⟨(some 10), (some (8, false)), false, (.ld false 1 (.t 9))⟩, ⟨(some 11), (some (8, false)), true, (.len (.t 10))⟩, ⟨(some 12), (some (8, false)), false, (.cal 69 [(.t 11), (.c (.int .i64 3))])⟩, ⟨(some 13), (some (8, false)), false, (.not (.t 12))⟩, ⟨(some 14), none, false, (.pick (.t 8) (.c (.bool true)) (.t 13))⟩, ⟨(some 15), none, false, (.mv (.t 14))⟩, ⟨(some 16), (some (15, false)), false, (.fa 2 (.t 1))⟩, ⟨(some 17), (some (15, false)), false, (.ld false 1 (.t 16))⟩, ⟨(some 18), (some (15, false)), true, (.len (.t 17))⟩, ⟨(some 19), (some (15, false)), false, (.cal 69 [(.t 18), (.c (.int .i64 3))])⟩, ⟨(some 20), (some (15, false)), false, (.not (.t 19))⟩, ⟨(some 21), none, false, (.pick (.t 15) (.c (.bool true)) (.t 20))⟩])
 (.cond (.t 21)
 (.seq (.reg [⟨(some 2), none, false, (.mv (.c (.bool false)))⟩])
 .ret)
 .skip))
 (.seq (.reg [⟨(some 22), none, false, (.fa 3 (.t 1))⟩, ⟨(some 23), none, true, (.ld false 1 (.t 22))⟩, ⟨(some 24), none, false, (.cal 69 [(.t 23), (.c (.int .i64 8))])⟩, ⟨(some 25), none, false, (.mv (.t 24))⟩, ⟨(some 26), (some (25, true)), false, (.fa 4 (.t 1))⟩, ⟨(some 27), (some (25, true)), true, (.ld false 1 (.t 26))⟩, ⟨(some 28), (some (25, true)), false, (.cal 69 [(.t 27), (.c (.int .i64 8))])⟩, ⟨(some 29), none, false, (.pick (.t 25) (.t 28) (.c (.bool false)))⟩, ⟨(some 30), none, false, (.mv (.t 29))⟩, ⟨(some 31), (some (30, true)), false, (.fa 5 (.t 1))⟩, ⟨(some 32), (some (30, true)), true, (.ld false 1 (.t 31))⟩, ⟨(some 33), (some (30, true)), false, (.cal 69 [(.t 32), (.c (.int .i64 8))])⟩, ⟨(some 34), none, false, (.pick (.t 30) (.t 33) (.c (.bool false)))⟩, ⟨(some 35), none, false, (.mv (.t 34))⟩, ⟨(some 36), (some (35, true)), false, (.fa 6 (.t 1))⟩, ⟨(some 37), (some (35, true)), true, (.ld false 1 (.t 36))⟩, ⟨(some 38), (some (35, true)), false, (.cal 69 [(.t 37), (.c (.int .i64 16))])⟩, ⟨(some 39), none, false, (.pick (.t 35) (.t 38) (.c (.bool false)))⟩, ⟨(some 40), none, false, (.mv (.t 39))⟩, ⟨(some 41), (some (40, true)), false, (.fa 7 (.t 1))⟩, ⟨(some 42), (some (40, true)), true, (.ld false 1 (.t 41))⟩, ⟨(some 43), (some (40, true)), false, (.cal 69 [(.t 42), (.c (.int .i64 64))])⟩, ⟨(some 44), none, false, (.pick (.t 40) (.t 43) (.c (.bool false)))⟩, ⟨(some 2), none, false, (.mv (.t 44))⟩])
 .ret)))
theorem l42 : ∃ c, f42.body = some c ∧ liteC prog f42.ntmps c = some q42 := ⟨_, rfl, by kernel_rfl⟩
theorem e42 : prog.funcs[42]? = some f42 := by kernel_rfl
theorem r42 : mapO (resOf prog) f42.results.toList = some [(.t 2)] := by kernel_rfl
theorem n42 : f42.ntmps = 45 := rfl
def T42 : TE := .fn q42 [(.t 2)] 45
theorem te42 : TEOK prog 42 T42 := te_fn e42 l42 rfl r42 n42

def q43 : RQ :=
 (.seq (.reg [⟨(some 2), none, false, (.box (.t 0))⟩, ⟨(some 3), none, false, (.box (.t 1))⟩, ⟨(some 4), none, false, (.mv (.c (.bool false)))⟩])
 (.seq (.seq (.reg [⟨(some 7), none, true, (.ld true 8 (.t 2))⟩, ⟨(some 8), none, false, (.cal 42 [(.t 7)])⟩, ⟨(some 9), none, false, (.not (.t 8))⟩, ⟨(some 10), none, false, (.mv (.t 9))⟩, ⟨(some 11), (some (10, false)), false, (.fa 0 (.t 3))⟩, ⟨(some 12), (some (10, false)), false, (.ld false 1 (.t 11))⟩, ⟨(some 13), (some (10, false)), false, (.len (.t 12))⟩, ⟨(some 14), (some (10, false)), false, (.bin .gtr (.t 13) (.c (.int .i64 64)))⟩, ⟨(some 15), none, false, (.pick (.t 10) (.c (.bool true)) (.t 14))⟩, ⟨(some 16), none, false, (.mv (.t 15))⟩, ⟨(some 17), (some (16, false)), false, (.fa 1 (.t 3))⟩, ⟨(some 18), (some (16, false)), false, (.ld false 1 (.t 17))⟩, ⟨(some 19), (some (16, false)), false, (.len (.t 18))⟩, ⟨(some 20), (some (16, false)), false, (.fa 5 (.t 2))⟩, ⟨(some 21), (some (16, false)), false, (.ld false 1 (.t 20))⟩, ⟨(some 22), (some (16, false)), false, (.bin .gtr (.t 19) (.t 21))⟩, ⟨(some 23), none, false, (.pick (.t 16) (.c (.bool true)) (.t 22))⟩, ⟨(some 24), none, false, (.mv (.t 23))⟩, ⟨(some 25), (some (24, false)), false, (.fa 2 (.t 3))⟩, ⟨(some 26), (some (24, false)), true, (.ld true 2 (.t 25))⟩, ⟨(some 27), (some (24, false)), false, (.fa 7 (.t 2))⟩, ⟨(some 28), (some (24, false)), true, (.ld false 1 (.t 27))⟩, ⟨(some 29), (some (24, false)), false, (.fa 6 (.t 2))⟩, ⟨(some 30), (some (24, false)), true, (.ld false 1 (.t 29))⟩, ⟨(some 31), (some (24, false)), false, (.cal 35 [(.t 26), (.t 28), (.t 30)])⟩, ⟨(some 32), (some (24, false)), false, (.bin .neq (.t 31) (.c (.int .i64 0)))⟩, ⟨(some 33), none, false, (.pick (.t 24) (.c (.bool true)) (.t 32))⟩])
 (.cond (.t 33)
 (.seq (.reg [⟨(some 4), none, false, (.mv (.c (.bool false)))⟩])
 .ret)
 .skip))
 (.seq (.seq (.reg [⟨(some 5), none, false, (.mv (.c (.int .i64 0)))⟩])
 (.block 0 (.loop (.seq (.seq (.reg [⟨(some 34), none, false, (.mv (.t 5))⟩, ⟨(some 35), none, false, (.fa 0 (.t 3))⟩, ⟨(some 36), none, false, (.ld false 1 (.t 35))⟩, ⟨(some 37), none, false, (.len (.t 36))⟩, ⟨(some 38), none, false, (.bin .lss (.t 34) (.t 37))⟩])
 (.cond (.t 38)
 .skip
 (.exit 0)))
 (.seq (.block 1 (.seq (.reg [⟨(some 41), none, false, (.fa 0 (.t 3))⟩, ⟨(some 42), none, false, (.ld false 1 (.t 41))⟩, ⟨(some 43), none, false, (.mv (.t 5))⟩, ⟨(some 44), none, false, (.ias 6 (.t 42) (.t 43))⟩, ⟨(some 45), none, false, (.ld true 6 (.t 44))⟩, ⟨(some 6), none, false, (.alloc [(.int .i64 0), (.int .i64 0), (.int .i64 0), (.int .u8 0), (.int .u64 0), (.int .u64 0)])⟩, ⟨none, none, false, (.st 6 (.t 6) (.t 45))⟩])
 (.seq (.reg [⟨(some 46), none, false, (.fa 0 (.t 6))⟩, ⟨(some 47), none, false, (.ld false 1 (.t 46))⟩, ⟨(some 48), none, false, (.mv (.t 5))⟩, ⟨(some 49), none, false, (.bin .add (.t 48) (.c (.int .i64 1)))⟩, ⟨(some 50), none, false, (.bin .neq (.t 47) (.t 49))⟩, ⟨(some 51), none, false, (.mv (.t 50))⟩, ⟨(some 52), (some (51, false)), true, (.ld true 6 (.t 6))⟩, ⟨(some 53), (some (51, false)), false, (.cal 56 [(.t 52)])⟩, ⟨(some 54), (some (51, false)), false, (.not (.t 53))⟩, ⟨(some 55), none, false, (.pick (.t 51) (.c (.bool true)) (.t 54))⟩, ⟨(some 56), none, false, (.mv (.t 55))⟩, ⟨(some 57), (some (56, false)), false, (.fa 1 (.t 6))⟩, ⟨(some 58), (some (56, false)), false, (.ld false 1 (.t 57))⟩, ⟨(some 59), (some (56, false)), false, (.fa 1 (.t 2))⟩, ⟨(some 60), (some (56, false)), false, (.ld false 1 (.t 59))⟩, ⟨(some 61), (some (56, false)), false, (.len (.t 60))⟩, ⟨(some 62), (some (56, false)), false, (.bin .geq (.t 58) (.t 61))⟩, ⟨(some 63), none, false, (.pick (.t 56) (.c (.bool true)) (.t 62))⟩, ⟨(some 64), none, false, (.mv (.t 63))⟩, ⟨(some 65), (some (64, false)), false, (.fa 2 (.t 6))⟩, ⟨(some 66), (some (64, false)), false, (.ld false 1 (.t 65))⟩, ⟨(some 67), (some (64, false)), false, (.fa 2 (.t 2))⟩, ⟨(some 68), (some (64, false)), false, (.ld false 1 (.t 67))⟩, ⟨(some 69), (some (64, false)), false, (.len (.t 68))⟩, ⟨(some 70), (some (64, false)), false, (.bin .geq (.t 66) (.t 69))⟩, ⟨(some 71), none, false, (.pick (.t 64) (.c (.bool true)) (.t 70))⟩])
 (.cond (.t 71)
 (.seq (.reg [⟨(some 4), none, false, (.mv (.c (.bool false)))⟩])
 .ret)
 .skip))))
 (.reg [⟨(some 39), none, false, (.mv (.t 5))⟩, ⟨(some 40), none, false, (.bin .add (.t 39) (.c (.int .i64 1)))⟩, ⟨(some 5), none, false, (.mv (.t 40))⟩]))))))
 (.seq (.drw [(false, ⟨(some 72), none, false, (.fa 1 (.t 3))⟩), (false, ⟨(some 73), none, true, (.ld false 1 (.t 72))⟩), (false, ⟨(some 74), none, false, (.fa 0 (.t 3))⟩), (false, ⟨(some 75), none, true, (.ld false 1 (.t 74))⟩), (false, ⟨(some 76), none, true, (.cal 70 [(.t 75)])⟩), (false, ⟨(some 77), none, false, (.cal 68 [(.t 73), (.t 76)])⟩), (false, ⟨(some 4), none, false, (.mv (.t 77))⟩)] [])
 .ret))))
theorem l43 : ∃ c, f43.body = some c ∧ liteC prog f43.ntmps c = some q43 := ⟨_, rfl, by kernel_rfl⟩
theorem e43 : prog.funcs[43]? = some f43 := by kernel_rfl
theorem r43 : mapO (resOf prog) f43.results.toList = some [(.t 4)] := by kernel_rfl
theorem n43 : f43.ntmps = 78 := rfl
def T43 : TE := .fn q43 [(.t 4)] 78
theorem te43 : TEOK prog 43 T43 := te_fn e43 l43 rfl r43 n43

def q44 : RQ :=
 (.seq (.reg [⟨(some 2), none, false, (.box (.t 0))⟩, ⟨(some 3), none, false, (.box (.t 1))⟩, ⟨(some 4), none, false, (.alloc [.nils, .nils, (.int .u64 0), (.int .i64 0)])⟩, ⟨(some 5), none, false, (.mv (.c (.int .i64 0)))⟩, ⟨(some 6), none, false, (.mv (.c (.int .i64 0)))⟩])
 (.seq (.seq (.reg [⟨(some 11), none, true, (.ld true 8 (.t 2))⟩, ⟨(some 12), none, true, (.ld true 4 (.t 3))⟩, ⟨(some 13), none, false, (.cal 29 [(.t 11), (.t 12)])⟩, ⟨(some 7), none, false, (.mv (.t 13))⟩])
 (.seq (.reg [⟨(some 14), none, false, (.mv (.t 7))⟩, ⟨(some 15), none, false, (.bin .neq (.t 14) (.c (.int .i64 0)))⟩])
 (.cond (.t 15)
 (.seq (.reg [⟨(some 16), none, false, (.build [.nils, .nils, (.int .u64 0), (.int .i64 0)] [])⟩, ⟨(some 17), none, false, (.mv (.t 7))⟩, ⟨none, none, false, (.st 4 (.t 4) (.t 16))⟩, ⟨(some 5), none, false, (.mv (.c (.int .i64 0)))⟩, ⟨(some 6), none, false, (.mv (.t 17))⟩])
 .ret)
 .skip)))
 (.seq (.seq (.reg [⟨(some 18), none, false, (.fa 1 (.t 3))⟩, ⟨(some 19), none, false, (.ld false 1 (.t 18))⟩, ⟨(some 20), none, false, (.len (.t 19))⟩, ⟨(some 21), none, false, (.bin .eql (.t 20) (.c (.int .i64 0)))⟩])
 (.cond (.t 21)
 (.seq (.reg [⟨(some 22), none, false, (.build [.nils, .nils, (.int .u64 0), (.int .i64 0)] [])⟩, ⟨none, none, false, (.st 4 (.t 4) (.t 22))⟩, ⟨(some 5), none, false, (.mv (.c (.int .i64 0)))⟩, ⟨(some 6), none, false, (.mv (.c (.int .i64 6)))⟩])
 .ret)
 .skip))
 (.seq (.reg [⟨(some 23), none, false, (.fa 1 (.t 3))⟩, ⟨(some 24), none, false, (.ld false 1 (.t 23))⟩, ⟨(some 25), none, false, (.ias 1 (.t 24) (.c (.int .i64 0)))⟩, ⟨(some 26), none, false, (.ld false 1 (.t 25))⟩, ⟨(some 8), none, false, (.mv (.t 26))⟩])
 (.seq (.reg [⟨(some 28), none, true, (.ld true 8 (.t 2))⟩, ⟨(some 29), none, true, (.ld true 4 (.t 3))⟩, ⟨(some 30), none, true, (.mv (.t 8))⟩, ⟨(some 31), none, false, (.cal 71 [(.t 28), (.t 29), (.t 30), (.c (.int .u8 2)), (.c (.int .u64 0))])⟩, ⟨(some 27), none, false, (.mv (.t 31))⟩, ⟨(some 32), none, false, (.ext (.t 27) 0)⟩, ⟨(some 33), none, false, (.ext (.t 27) 1)⟩, ⟨(some 9), none, false, (.alloc [.nils, .nils, (.int .u64 0), (.int .i64 0)])⟩, ⟨none, none, false, (.st 4 (.t 9) (.t 32))⟩, ⟨(some 10), none, false, (.mv (.t 33))⟩])
 (.seq (.seq (.reg [⟨(some 34), none, false, (.mv (.t 10))⟩, ⟨(some 35), none, false, (.bin .neq (.t 34) (.c (.int .i64 0)))⟩])
 (.cond (.t 35)
 (.seq (.reg [⟨(some 36), none, false, (.build [.nils, .nils, (.int .u64 0), (.int .i64 0)] [])⟩, ⟨(some 37), none, false, (.mv (.t 10))⟩, ⟨none, none, false, (.st 4 (.t 4) (.t 36))⟩, ⟨(some 5), none, false, (.mv (.c (.int .i64 0)))⟩, ⟨(some 6), none, false, (.mv (.t 37))⟩])
 .ret)
 .skip))
 (.seq (.reg [⟨(some 38), none, false, (.ld true 4 (.t 9))⟩, ⟨(some 39), none, false, (.mv (.t 8))⟩, ⟨none, none, false, (.st 4 (.t 4) (.t 38))⟩, ⟨(some 5), none, false, (.mv (.t 39))⟩, ⟨(some 6), none, false, (.mv (.c (.int .i64 0)))⟩])
 .ret)))))))
theorem l44 : ∃ c, f44.body = some c ∧ liteC prog f44.ntmps c = some q44 := ⟨_, rfl, by kernel_rfl⟩
theorem e44 : prog.funcs[44]? = some f44 := by kernel_rfl
theorem r44 : mapO (resOf prog) f44.results.toList = some [(.c 4 true 4), (.t 5), (.t 6)] := by kernel_rfl
theorem n44 : f44.ntmps = 40 := rfl
def T44 : TE := .fn q44 [(.c 4 true 4), (.t 5), (.t 6)] 40
theorem te44 : TEOK prog 44 T44 := te_fn e44 l44 rfl r44 n44

def q45 : RQ :=
 (.seq (.reg [⟨(some 3), none, false, (.box (.t 0))⟩, ⟨(some 4), none, false, (.box (.t 1))⟩, ⟨(some 6), none, false, (.alloc [(.int .i64 0), (.int .i64 0), (.int .i64 0), (.int .u8 0), (.int .u64 0), (.int .u64 0)])⟩, ⟨(some 7), none, false, (.mv (.c (.int .i64 0)))⟩])
 (.seq (.reg [⟨(some 11), none, true, (.ld true 8 (.t 3))⟩, ⟨(some 12), none, true, (.ld true 4 (.t 4))⟩, ⟨(some 13), none, false, (.cal 53 [(.t 11), (.t 12)])⟩, ⟨(some 10), none, false, (.mv (.t 13))⟩, ⟨(some 14), none, false, (.ext (.t 10) 0)⟩, ⟨(some 15), none, false, (.ext (.t 10) 1)⟩, ⟨(some 8), none, false, (.alloc [.nils, .nils, (.int .u64 0), (.int .i64 0), .nils, .nils, .nils, (.int .i64 0), (.int .i64 0), (.int .i64 0), (.int .i64 0), (.int .i64 0)])⟩, ⟨none, none, false, (.st 12 (.t 8) (.t 14))⟩, ⟨(some 9), none, false, (.mv (.t 15))⟩])
 (.seq (.seq (.reg [⟨(some 16), none, false, (.mv (.t 9))⟩, ⟨(some 17), none, false, (.bin .neq (.t 16) (.c (.int .i64 0)))⟩])
 (.cond (.t 17)
 (.seq (.reg [⟨(some 18), none, false, (.build [(.int .i64 0), (.int .i64 0), (.int .i64 0), (.int .u8 0), (.int .u64 0), (.int .u64 0)] [])⟩, ⟨(some 19), none, false, (.mv (.t 9))⟩, ⟨none, none, false, (.st 6 (.t 6) (.t 18))⟩, ⟨(some 7), none, false, (.mv (.t 19))⟩])
 .ret)
 .skip))
 (.seq (.reg [⟨(some 20), none, true, (.ld true 12 (.t 8))⟩, ⟨(some 21), none, true, (.mv (.t 2))⟩, ⟨(some 22), none, false, (.cal 72 [(.t 20), (.t 21)])⟩, ⟨(some 23), none, false, (.ext (.t 22) 0)⟩, ⟨(some 24), none, false, (.ext (.t 22) 1)⟩, ⟨none, none, false, (.st 6 (.t 6) (.t 23))⟩, ⟨(some 7), none, false, (.mv (.t 24))⟩])
 .ret))))
theorem l45 : ∃ c, f45.body = some c ∧ liteC prog f45.ntmps c = some q45 := ⟨_, rfl, by kernel_rfl⟩
theorem e45 : prog.funcs[45]? = some f45 := by kernel_rfl
theorem r45 : mapO (resOf prog) f45.results.toList = some [(.c 6 true 6), (.t 7)] := by kernel_rfl
theorem n45 : f45.ntmps = 25 := rfl
def T45 : TE := .fn q45 [(.c 6 true 6), (.t 7)] 25
theorem te45 : TEOK prog 45 T45 := te_fn e45 l45 rfl r45 n45

def q46 : RQ :=
 (.seq (.reg [⟨(some 3), none, false, (.box (.t 0))⟩, ⟨(some 4), none, false, (.box (.t 1))⟩, ⟨(some 6), none, false, (.alloc [.nils, .nils, (.int .u64 0), (.int .i64 0)])⟩, ⟨(some 7), none, false, (.mv (.c (.int .i64 0)))⟩])
 (.seq (.reg [⟨(some 8), none, true, (.ld true 8 (.t 3))⟩, ⟨(some 9), none, true, (.ld true 4 (.t 4))⟩, ⟨(some 10), none, true, (.mv (.t 2))⟩, ⟨(some 11), none, false, (.cal 71 [(.t 8), (.t 9), (.t 10), (.c (.int .u8 5)), (.c (.int .u64 0))])⟩, ⟨(some 12), none, false, (.ext (.t 11) 0)⟩, ⟨(some 13), none, false, (.ext (.t 11) 1)⟩, ⟨none, none, false, (.st 4 (.t 6) (.t 12))⟩, ⟨(some 7), none, false, (.mv (.t 13))⟩])
 .ret))
theorem l46 : ∃ c, f46.body = some c ∧ liteC prog f46.ntmps c = some q46 := ⟨_, rfl, by kernel_rfl⟩
theorem e46 : prog.funcs[46]? = some f46 := by kernel_rfl
theorem r46 : mapO (resOf prog) f46.results.toList = some [(.c 6 true 4), (.t 7)] := by kernel_rfl
theorem n46 : f46.ntmps = 14 := rfl
def T46 : TE := .fn q46 [(.c 6 true 4), (.t 7)] 14
theorem te46 : TEOK prog 46 T46 := te_fn e46 l46 rfl r46 n46

def q47 : RQ :=
 (.seq (.reg [⟨(some 2), none, false, (.mv (.c (.bool false)))⟩])
 (.seq (.reg [⟨(some 3), none, false, (.mv (.t 0))⟩, ⟨(some 4), none, false, (.bin .geq (.t 3) (.c (.int .u8 1)))⟩, ⟨(some 5), none, false, (.mv (.t 4))⟩, ⟨(some 6), (some (5, true)), false, (.mv (.t 0))⟩, ⟨(some 7), (some (5, true)), false, (.bin .leq (.t 6) (.c (.int .u8 5)))⟩, ⟨(some 8), none, false, (.pick (.t 5) (.t 7) (.c (.bool false)))⟩, ⟨(some 2), none, false, (.mv (.t 8))⟩])
 .ret))
theorem l47 : ∃ c, f47.body = some c ∧ liteC prog f47.ntmps c = some q47 := ⟨_, rfl, by kernel_rfl⟩
theorem e47 : prog.funcs[47]? = some f47 := by kernel_rfl
theorem r47 : mapO (resOf prog) f47.results.toList = some [(.t 2)] := by kernel_rfl
theorem n47 : f47.ntmps = 9 := rfl
def T47 : TE := .fn q47 [(.t 2)] 9
theorem te47 : TEOK prog 47 T47 := te_fn e47 l47 rfl r47 n47

def q48 : RQ :=
 (.seq (.reg [⟨(some 4), none, false, (.mv (.c (.bool false)))⟩])
 (.seq (.seq (.reg [⟨(some 5), none, false, (.mv (.t 1))⟩])
 (.block 0 (.seq (.seq (.reg [⟨(some 7), none, false, (.bin .eql (.t 5) (.c (.int .u8 2)))⟩, ⟨(some 6), none, false, (.mv (.t 7))⟩])
 (.cond (.t 6)
 .skip
 (.reg [⟨(some 8), none, false, (.bin .eql (.t 5) (.c (.int .u8 5)))⟩, ⟨(some 6), none, false, (.mv (.t 8))⟩])))
 (.cond (.t 6)
 (.seq (.reg [⟨(some 9), none, false, (.mv (.t 0))⟩, ⟨(some 10), none, false, (.bin .eql (.t 9) (.c (.int .u8 1)))⟩, ⟨(some 4), none, false, (.mv (.t 10))⟩])
 .ret)
 (.seq (.reg [⟨(some 12), none, false, (.bin .eql (.t 5) (.c (.int .u8 3)))⟩, ⟨(some 11), none, false, (.mv (.t 12))⟩])
 (.cond (.t 11)
 (.seq (.reg [⟨(some 13), none, false, (.mv (.t 0))⟩, ⟨(some 14), none, false, (.bin .eql (.t 13) (.c (.int .u8 2)))⟩, ⟨(some 4), none, false, (.mv (.t 14))⟩])
 .ret)
 (.seq (.reg [⟨(some 16), none, false, (.bin .eql (.t 5) (.c (.int .u8 4)))⟩, ⟨(some 15), none, false, (.mv (.t 16))⟩])
 (.cond (.t 15)
 (.seq (.reg [⟨(some 17), none, false, (.mv (.t 0))⟩, ⟨(some 18), none, false, (.bin .eql (.t 17) (.c (.int .u8 3)))⟩, ⟨(some 4), none, false, (.mv (.t 18))⟩])
 .ret)
 .skip))))))))
 (.seq (.reg [⟨(some 4), none, false, (.mv (.c (.bool false)))⟩])
 .ret)))
theorem l48 : ∃ c, f48.body = some c ∧ liteC prog f48.ntmps c = some q48 := ⟨_, rfl, by kernel_rfl⟩
theorem e48 : prog.funcs[48]? = some f48 := by kernel_rfl
theorem r48 : mapO (resOf prog) f48.results.toList = some [(.t 4)] := by kernel_rfl
theorem n48 : f48.ntmps = 19 := rfl
def T48 : TE := .fn q48 [(.t 4)] 19
theorem te48 : TEOK prog 48 T48 := te_fn e48 l48 rfl r48 n48

def q49 : RQ :=
 (.seq (.reg [⟨(some 4), none, false, (.mv (.c (.int .u64 0)))⟩])
 (.seq (.reg [⟨(some 5), none, false, (.mv (.t 0))⟩, ⟨(some 6), none, false, (.mv (.t 1))⟩, ⟨(some 7), none, false, (.cv .u64 (.t 6))⟩, ⟨(some 8), none, false, (.bin .quo (.t 5) (.t 7))⟩, ⟨(some 4), none, false, (.mv (.t 8))⟩])
 .ret))
theorem l49 : ∃ c, f49.body = some c ∧ liteC prog f49.ntmps c = some q49 := ⟨_, rfl, by kernel_rfl⟩
theorem e49 : prog.funcs[49]? = some f49 := by kernel_rfl
theorem r49 : mapO (resOf prog) f49.results.toList = some [(.t 4)] := by kernel_rfl
theorem n49 : f49.ntmps = 9 := rfl
def T49 : TE := .fn q49 [(.t 4)] 9
theorem te49 : TEOK prog 49 T49 := te_fn e49 l49 rfl r49 n49

def q50 : RQ :=
 (.seq (.reg [⟨(some 6), none, false, (.mv (.c (.bool false)))⟩])
 (.seq (.seq (.reg [⟨(some 9), none, false, (.mv (.t 2))⟩, ⟨(some 10), none, false, (.len (.t 9))⟩, ⟨(some 11), none, false, (.mv (.c (.int .i64 0)))⟩])
 (.block 0 (.loop (.seq (.reg [⟨(some 12), none, false, (.bin .lss (.t 11) (.t 10))⟩])
 (.seq (.cond (.t 12)
 .skip
 (.exit 0))
 (.seq (.block 1 (.seq (.reg [⟨(some 13), none, false, (.ias 1 (.t 9) (.t 11))⟩, ⟨(some 14), none, false, (.ld false 1 (.t 13))⟩, ⟨(some 8), none, false, (.mv (.t 14))⟩])
 (.seq (.reg [⟨(some 15), none, false, (.mv (.t 8))⟩, ⟨(some 16), none, false, (.mv (.t 0))⟩, ⟨(some 17), none, false, (.bin .lss (.t 15) (.t 16))⟩, ⟨(some 18), none, false, (.mv (.t 17))⟩, ⟨(some 19), (some (18, false)), false, (.mv (.t 8))⟩, ⟨(some 20), (some (18, false)), false, (.mv (.t 1))⟩, ⟨(some 21), (some (18, false)), false, (.bin .gtr (.t 19) (.t 20))⟩, ⟨(some 22), none, false, (.pick (.t 18) (.c (.bool true)) (.t 21))⟩])
 (.cond (.t 22)
 (.seq (.reg [⟨(some 6), none, false, (.mv (.c (.bool false)))⟩])
 .ret)
 .skip))))
 (.reg [⟨(some 23), none, false, (.bin .add (.t 11) (.c (.int .i64 1)))⟩, ⟨(some 11), none, false, (.mv (.t 23))⟩])))))))
 (.seq (.reg [⟨(some 6), none, false, (.mv (.c (.bool true)))⟩])
 .ret)))
theorem l50 : ∃ c, f50.body = some c ∧ liteC prog f50.ntmps c = some q50 := ⟨_, rfl, by kernel_rfl⟩
theorem e50 : prog.funcs[50]? = some f50 := by kernel_rfl
theorem r50 : mapO (resOf prog) f50.results.toList = some [(.t 6)] := by kernel_rfl
theorem n50 : f50.ntmps = 24 := rfl
def T50 : TE := .fn q50 [(.t 6)] 24
theorem te50 : TEOK prog 50 T50 := te_fn e50 l50 rfl r50 n50

def q51 : RQ :=
 (.seq (.reg [⟨(some 3), none, false, (.box (.t 0))⟩, ⟨(some 4), none, false, (.box (.t 1))⟩, ⟨(some 6), none, false, (.alloc [.nils, .nils, (.int .u64 0), (.int .i64 0)])⟩, ⟨(some 7), none, false, (.mv (.c (.int .i64 0)))⟩])
 (.seq (.reg [⟨(some 8), none, true, (.ld true 8 (.t 3))⟩, ⟨(some 9), none, true, (.ld true 4 (.t 4))⟩, ⟨(some 10), none, true, (.mv (.t 2))⟩, ⟨(some 11), none, false, (.cal 71 [(.t 8), (.t 9), (.t 10), (.c (.int .u8 3)), (.c (.int .u64 0))])⟩, ⟨(some 12), none, false, (.ext (.t 11) 0)⟩, ⟨(some 13), none, false, (.ext (.t 11) 1)⟩, ⟨none, none, false, (.st 4 (.t 6) (.t 12))⟩, ⟨(some 7), none, false, (.mv (.t 13))⟩])
 .ret))
theorem l51 : ∃ c, f51.body = some c ∧ liteC prog f51.ntmps c = some q51 := ⟨_, rfl, by kernel_rfl⟩
theorem e51 : prog.funcs[51]? = some f51 := by kernel_rfl
theorem r51 : mapO (resOf prog) f51.results.toList = some [(.c 6 true 4), (.t 7)] := by kernel_rfl
theorem n51 : f51.ntmps = 14 := rfl
def T51 : TE := .fn q51 [(.c 6 true 4), (.t 7)] 14
theorem te51 : TEOK prog 51 T51 := te_fn e51 l51 rfl r51 n51

def q52 : RQ :=
 (.seq (.reg [⟨(some 4), none, false, (.box (.t 0))⟩, ⟨(some 5), none, false, (.box (.t 1))⟩, ⟨(some 8), none, false, (.alloc [.nils, .nils, (.int .u64 0), (.int .i64 0)])⟩, ⟨(some 9), none, false, (.mv (.c (.int .i64 0)))⟩])
 (.seq (.reg [⟨(some 10), none, true, (.ld true 8 (.t 4))⟩, ⟨(some 11), none, true, (.ld true 4 (.t 5))⟩, ⟨(some 12), none, true, (.mv (.t 2))⟩, ⟨(some 13), none, true, (.mv (.t 3))⟩, ⟨(some 14), none, false, (.cal 71 [(.t 10), (.t 11), (.t 12), (.c (.int .u8 4)), (.t 13)])⟩, ⟨(some 15), none, false, (.ext (.t 14) 0)⟩, ⟨(some 16), none, false, (.ext (.t 14) 1)⟩, ⟨none, none, false, (.st 4 (.t 8) (.t 15))⟩, ⟨(some 9), none, false, (.mv (.t 16))⟩])
 .ret))
theorem l52 : ∃ c, f52.body = some c ∧ liteC prog f52.ntmps c = some q52 := ⟨_, rfl, by kernel_rfl⟩
theorem e52 : prog.funcs[52]? = some f52 := by kernel_rfl
theorem r52 : mapO (resOf prog) f52.results.toList = some [(.c 8 true 4), (.t 9)] := by kernel_rfl
theorem n52 : f52.ntmps = 17 := rfl
def T52 : TE := .fn q52 [(.c 8 true 4), (.t 9)] 17
theorem te52 : TEOK prog 52 T52 := te_fn e52 l52 rfl r52 n52

def q53 : RQ :=
 (.seq (.reg [⟨(some 2), none, false, (.box (.t 0))⟩, ⟨(some 3), none, false, (.box (.t 1))⟩, ⟨(some 4), none, false, (.alloc [.nils, .nils, (.int .u64 0), (.int .i64 0), .nils, .nils, .nils, (.int .i64 0), (.int .i64 0), (.int .i64 0), (.int .i64 0), (.int .i64 0)])⟩, ⟨(some 5), none, false, (.mv (.c (.int .i64 0)))⟩])
 (.seq (.reg [⟨(some 8), none, false, (.ld true 4 (.t 3))⟩, ⟨(some 9), none, false, (.ld true 8 (.t 2))⟩, ⟨(some 10), none, false, (.build [.nils, .nils, (.int .u64 0), (.int .i64 0), .nils, .nils, .nils, (.int .i64 0), (.int .i64 0), (.int .i64 0), (.int .i64 0), (.int .i64 0)] [(0, 4, (.t 8)), (4, 8, (.t 9))])⟩, ⟨(some 6), none, false, (.alloc [.nils, .nils, (.int .u64 0), (.int .i64 0), .nils, .nils, .nils, (.int .i64 0), (.int .i64 0), (.int .i64 0), (.int .i64 0), (.int .i64 0)])⟩, ⟨none, none, false, (.st 12 (.t 6) (.t 10))⟩])
 (.seq (.seq (.reg [⟨(some 11), none, true, (.ld true 12 (.t 6))⟩, ⟨(some 12), none, false, (.cal 55 [(.t 11)])⟩, ⟨(some 7), none, false, (.mv (.t 12))⟩])
 (.seq (.reg [⟨(some 13), none, false, (.mv (.t 7))⟩, ⟨(some 14), none, false, (.bin .neq (.t 13) (.c (.int .i64 0)))⟩])
 (.cond (.t 14)
 (.seq (.reg [⟨(some 15), none, false, (.build [.nils, .nils, (.int .u64 0), (.int .i64 0), .nils, .nils, .nils, (.int .i64 0), (.int .i64 0), (.int .i64 0), (.int .i64 0), (.int .i64 0)] [])⟩, ⟨(some 16), none, false, (.mv (.t 7))⟩, ⟨none, none, false, (.st 12 (.t 4) (.t 15))⟩, ⟨(some 5), none, false, (.mv (.t 16))⟩])
 .ret)
 .skip)))
 (.seq (.drw [(false, ⟨(some 17), none, false, (.fa 0 (.t 6))⟩), (false, ⟨(some 18), none, false, (.fa 0 (.t 17))⟩), (false, ⟨(some 19), none, true, (.ld false 1 (.t 18))⟩), (false, ⟨(some 20), none, false, (.cal 73 [(.t 19)])⟩), (false, ⟨(some 21), none, false, (.fa 0 (.t 6))⟩), (false, ⟨(some 22), none, false, (.fa 1 (.t 21))⟩), (false, ⟨(some 23), none, true, (.ld false 1 (.t 22))⟩), (false, ⟨(some 24), none, false, (.cal 74 [(.t 23)])⟩), (false, ⟨(some 25), none, false, (.fa 0 (.t 6))⟩), (false, ⟨(some 26), none, false, (.fa 0 (.t 25))⟩)] [⟨none, none, false, (.st 1 (.t 26) (.t 20))⟩, ⟨(some 27), none, false, (.fa 0 (.t 6))⟩, ⟨(some 28), none, false, (.fa 1 (.t 27))⟩, ⟨none, none, false, (.st 1 (.t 28) (.t 24))⟩])
 (.seq (.reg [⟨(some 29), none, false, (.ld true 12 (.t 6))⟩, ⟨none, none, false, (.st 12 (.t 4) (.t 29))⟩, ⟨(some 5), none, false, (.mv (.c (.int .i64 0)))⟩])
 .ret)))))
theorem l53 : ∃ c, f53.body = some c ∧ liteC prog f53.ntmps c = some q53 := ⟨_, rfl, by kernel_rfl⟩
theorem e53 : prog.funcs[53]? = some f53 := by kernel_rfl
theorem r53 : mapO (resOf prog) f53.results.toList = some [(.c 4 true 12), (.t 5)] := by kernel_rfl
theorem n53 : f53.ntmps = 30 := rfl
def T53 : TE := .fn q53 [(.c 4 true 12), (.t 5)] 30
theorem te53 : TEOK prog 53 T53 := te_fn e53 l53 rfl r53 n53

def q54 : RQ :=
 (.seq (.reg [⟨(some 3), none, false, (.box (.t 0))⟩, ⟨(some 6), none, false, (.mv (.c (.bool false)))⟩])
 (.seq (.reg [⟨(some 7), none, false, (.fa 4 (.t 3))⟩, ⟨(some 8), none, false, (.fa 1 (.t 7))⟩, ⟨(some 9), none, false, (.ld false 1 (.t 8))⟩, ⟨(some 10), none, false, (.len (.t 9))⟩, ⟨(some 11), none, true, (.bin .sub (.t 10) (.c (.int .i64 1)))⟩, ⟨(some 12), none, false, (.mv (.t 1))⟩, ⟨(some 13), none, true, (.bslice 1 1 [(.int .i64 0)] [(0, (.t 12))])⟩, ⟨(some 14), none, false, (.cal 50 [(.c (.int .i64 0)), (.t 11), (.t 13)])⟩, ⟨(some 15), none, false, (.mv (.t 14))⟩, ⟨(some 16), (some (15, true)), false, (.fa 4 (.t 3))⟩, ⟨(some 17), (some (15, true)), false, (.fa 2 (.t 16))⟩, ⟨(some 18), (some (15, true)), false, (.ld false 1 (.t 17))⟩, ⟨(some 19), (some (15, true)), false, (.len (.t 18))⟩, ⟨(some 20), (some (15, true)), true, (.bin .sub (.t 19) (.c (.int .i64 1)))⟩, ⟨(some 21), (some (15, true)), false, (.mv (.t 2))⟩, ⟨(some 22), (some (15, true)), true, (.bslice 1 1 [(.int .i64 0)] [(0, (.t 21))])⟩, ⟨(some 23), (some (15, true)), false, (.cal 50 [(.c (.int .i64 0)), (.t 20), (.t 22)])⟩, ⟨(some 24), none, false, (.pick (.t 15) (.t 23) (.c (.bool false)))⟩, ⟨(some 6), none, false, (.mv (.t 24))⟩])
 .ret))
theorem l54 : ∃ c, f54.body = some c ∧ liteC prog f54.ntmps c = some q54 := ⟨_, rfl, by kernel_rfl⟩
theorem e54 : prog.funcs[54]? = some f54 := by kernel_rfl
theorem r54 : mapO (resOf prog) f54.results.toList = some [(.t 6)] := by kernel_rfl
theorem n54 : f54.ntmps = 25 := rfl
def T54 : TE := .fn q54 [(.t 6)] 25
theorem te54 : TEOK prog 54 T54 := te_fn e54 l54 rfl r54 n54

def q56 : RQ :=
 (.seq (.reg [⟨(some 1), none, false, (.box (.t 0))⟩, ⟨(some 2), none, false, (.mv (.c (.bool false)))⟩])
 (.seq (.seq (.reg [⟨(some 3), none, false, (.fa 0 (.t 1))⟩, ⟨(some 4), none, false, (.ld false 1 (.t 3))⟩, ⟨(some 5), none, false, (.bin .lss (.t 4) (.c (.int .i64 1)))⟩, ⟨(some 6), none, false, (.mv (.t 5))⟩, ⟨(some 7), (some (6, false)), false, (.fa 0 (.t 1))⟩, ⟨(some 8), (some (6, false)), false, (.ld false 1 (.t 7))⟩, ⟨(some 9), (some (6, false)), false, (.bin .gtr (.t 8) (.c (.int .i64 64)))⟩, ⟨(some 10), none, false, (.pick (.t 6) (.c (.bool true)) (.t 9))⟩, ⟨(some 11), none, false, (.mv (.t 10))⟩, ⟨(some 12), (some (11, false)), false, (.fa 1 (.t 1))⟩, ⟨(some 13), (some (11, false)), false, (.ld false 1 (.t 12))⟩, ⟨(some 14), (some (11, false)), false, (.bin .lss (.t 13) (.c (.int .i64 0)))⟩, ⟨(some 15), none, false, (.pick (.t 11) (.c (.bool true)) (.t 14))⟩, ⟨(some 16), none, false, (.mv (.t 15))⟩, ⟨(some 17), (some (16, false)), false, (.fa 1 (.t 1))⟩, ⟨(some 18), (some (16, false)), false, (.ld false 1 (.t 17))⟩, ⟨(some 19), (some (16, false)), false, (.bin .gtr (.t 18) (.c (.int .i64 2)))⟩, ⟨(some 20), none, false, (.pick (.t 16) (.c (.bool true)) (.t 19))⟩, ⟨(some 21), none, false, (.mv (.t 20))⟩, ⟨(some 22), (some (21, false)), false, (.fa 2 (.t 1))⟩, ⟨(some 23), (some (21, false)), false, (.ld false 1 (.t 22))⟩, ⟨(some 24), (some (21, false)), false, (.bin .lss (.t 23) (.c (.int .i64 0)))⟩, ⟨(some 25), none, false, (.pick (.t 21) (.c (.bool true)) (.t 24))⟩, ⟨(some 26), none, false, (.mv (.t 25))⟩, ⟨(some 27), (some (26, false)), false, (.fa 2 (.t 1))⟩, ⟨(some 28), (some (26, false)), false, (.ld false 1 (.t 27))⟩, ⟨(some 29), (some (26, false)), false, (.bin .gtr (.t 28) (.c (.int .i64 2)))⟩, ⟨(some 30), none, false, (.pick (.t 26) (.c (.bool true)) (.t 29))⟩, ⟨(some 31), none, false, (.mv (.t 30))⟩, ⟨(some 32), (some (31, false)), false, (.fa 3 (.t 1))⟩, ⟨(some 33), (some (31, false)), false, (.ld false 1 (.t 32))⟩, ⟨(some 34), (some (31, false)), false, (.bin .lss (.t 33) (.c (.int .u8 1)))⟩, ⟨(some 35), none, false, (.pick (.t 31) (.c (.bool true)) (.t 34))⟩, ⟨(some 36), none, false, (.mv (.t 35))⟩, ⟨(some 37), (some (36, false)), false, (.fa 3 (.t 1))⟩, ⟨(some 38), (some (36, false)), false, (.ld false 1 (.t 37))⟩, ⟨(some 39), (some (36, false)), false, (.bin .gtr (.t 38) (.c (.int .u8 5)))⟩, ⟨(some 40), none, false, (.pick (.t 36) (.c (.bool true)) (.t 39))⟩, ⟨(some 41), none, false, (.mv (.t 40))⟩, ⟨(some 42), (some (41, false)), false, (.fa 4 (.t 1))⟩, ⟨(some 43), (some (41, false)), false, (.ld false 1 (.t 42))⟩, ⟨(some 44), (some (41, false)), false, (.bin .gtr (.t 43) (.c (.int .u64 4611686018427387904)))⟩, ⟨(some 45), none, false, (.pick (.t 41) (.c (.bool true)) (.t 44))⟩])
 (.cond (.t 45)
 (.seq (.reg [⟨(some 2), none, false, (.mv (.c (.bool false)))⟩])
 .ret)
 .skip))
 (.seq (.seq (.reg [⟨(some 46), none, false, (.fa 3 (.t 1))⟩, ⟨(some 47), none, false, (.ld false 1 (.t 46))⟩, ⟨(some 48), none, false, (.bin .eql (.t 47) (.c (.int .u8 4)))⟩])
 (.cond (.t 48)
 (.seq (.reg [⟨(some 49), none, false, (.fa 5 (.t 1))⟩, ⟨(some 50), none, false, (.ld false 1 (.t 49))⟩, ⟨(some 51), none, false, (.bin .geq (.t 50) (.c (.int .u64 1)))⟩, ⟨(some 52), none, false, (.mv (.t 51))⟩, ⟨(some 53), (some (52, true)), false, (.fa 5 (.t 1))⟩, ⟨(some 54), (some (52, true)), false, (.ld false 1 (.t 53))⟩, ⟨(some 55), (some (52, true)), false, (.bin .leq (.t 54) (.c (.int .u64 4611686018427387904)))⟩, ⟨(some 56), none, false, (.pick (.t 52) (.t 55) (.c (.bool false)))⟩, ⟨(some 2), none, false, (.mv (.t 56))⟩])
 .ret)
 .skip))
 (.seq (.reg [⟨(some 57), none, false, (.fa 5 (.t 1))⟩, ⟨(some 58), none, false, (.ld false 1 (.t 57))⟩, ⟨(some 59), none, false, (.bin .eql (.t 58) (.c (.int .u64 0)))⟩, ⟨(some 2), none, false, (.mv (.t 59))⟩])
 .ret))))
theorem l56 : ∃ c, f56.body = some c ∧ liteC prog f56.ntmps c = some q56 := ⟨_, rfl, by kernel_rfl⟩
theorem e56 : prog.funcs[56]? = some f56 := by kernel_rfl
theorem r56 : mapO (resOf prog) f56.results.toList = some [(.t 2)] := by kernel_rfl
theorem n56 : f56.ntmps = 60 := rfl
def T56 : TE := .fn q56 [(.t 2)] 60
theorem te56 : TEOK prog 56 T56 := te_fn e56 l56 rfl r56 n56

def q57 : RQ :=
 (.seq (.reg [⟨(some 1), none, false, (.box (.t 0))⟩, ⟨(some 2), none, false, (.mv (.c (.bool false)))⟩])
 (.seq (.seq (.reg [⟨(some 3), none, false, (.fa 3 (.t 1))⟩, ⟨(some 4), none, false, (.ld false 1 (.t 3))⟩, ⟨(some 5), none, false, (.bin .eql (.t 4) (.c (.int .u8 4)))⟩])
 (.cond (.t 5)
 (.seq (.reg [⟨(some 6), none, false, (.fa 5 (.t 1))⟩, ⟨(some 7), none, false, (.ld false 1 (.t 6))⟩, ⟨(some 8), none, false, (.bin .geq (.t 7) (.c (.int .u64 1)))⟩, ⟨(some 9), none, false, (.mv (.t 8))⟩, ⟨(some 10), (some (9, true)), false, (.fa 5 (.t 1))⟩, ⟨(some 11), (some (9, true)), false, (.ld false 1 (.t 10))⟩, ⟨(some 12), (some (9, true)), false, (.bin .leq (.t 11) (.c (.int .u64 4611686018427387904)))⟩, ⟨(some 13), none, false, (.pick (.t 9) (.t 12) (.c (.bool false)))⟩, ⟨(some 2), none, false, (.mv (.t 13))⟩])
 .ret)
 .skip))
 (.seq (.reg [⟨(some 14), none, false, (.fa 5 (.t 1))⟩, ⟨(some 15), none, false, (.ld false 1 (.t 14))⟩, ⟨(some 16), none, false, (.bin .eql (.t 15) (.c (.int .u64 0)))⟩, ⟨(some 2), none, false, (.mv (.t 16))⟩])
 .ret)))
theorem l57 : ∃ c, f57.body = some c ∧ liteC prog f57.ntmps c = some q57 := ⟨_, rfl, by kernel_rfl⟩
theorem e57 : prog.funcs[57]? = some f57 := by kernel_rfl
theorem r57 : mapO (resOf prog) f57.results.toList = some [(.t 2)] := by kernel_rfl
theorem n57 : f57.ntmps = 17 := rfl
def T57 : TE := .fn q57 [(.t 2)] 17
theorem te57 : TEOK prog 57 T57 := te_fn e57 l57 rfl r57 n57

def q58 : RQ :=
 (.seq (.reg [⟨(some 4), none, false, (.mv (.c (.bool false)))⟩])
 (.seq (.reg [⟨(some 5), none, false, (.mv (.t 0))⟩, ⟨(some 6), none, false, (.bin .eql (.t 5) (.c (.int .u8 1)))⟩, ⟨(some 7), none, false, (.mv (.t 6))⟩, ⟨(some 8), (some (7, true)), false, (.mv (.t 1))⟩, ⟨(some 9), (some (7, true)), false, (.bin .eql (.t 8) (.c (.int .u8 2)))⟩, ⟨(some 10), none, false, (.pick (.t 7) (.t 9) (.c (.bool false)))⟩, ⟨(some 11), none, false, (.mv (.t 10))⟩, ⟨(some 12), (some (11, false)), false, (.mv (.t 0))⟩, ⟨(some 13), (some (11, false)), false, (.bin .eql (.t 12) (.c (.int .u8 1)))⟩, ⟨(some 14), (some (11, false)), false, (.mv (.t 13))⟩, ⟨(some 15), (some (14, true)), false, (.mv (.t 1))⟩, ⟨(some 16), (some (14, true)), false, (.bin .eql (.t 15) (.c (.int .u8 5)))⟩, ⟨(some 17), (some (11, false)), false, (.pick (.t 14) (.t 16) (.c (.bool false)))⟩, ⟨(some 18), none, false, (.pick (.t 11) (.c (.bool true)) (.t 17))⟩, ⟨(some 19), none, false, (.mv (.t 18))⟩, ⟨(some 20), (some (19, false)), false, (.mv (.t 0))⟩, ⟨(some 21), (some (19, false)), false, (.bin .eql (.t 20) (.c (.int .u8 2)))⟩, ⟨(some 22), (some (19, false)), false, (.mv (.t 21))⟩, ⟨(some 23), (some (22, true)), false, (.mv (.t 1))⟩, ⟨(some 24), (some (22, true)), false, (.bin .eql (.t 23) (.c (.int .u8 3)))⟩, ⟨(some 25), (some (19, false)), false, (.pick (.t 22) (.t 24) (.c (.bool false)))⟩, ⟨(some 26), none, false, (.pick (.t 19) (.c (.bool true)) (.t 25))⟩, ⟨(some 27), none, false, (.mv (.t 26))⟩, ⟨(some 28), (some (27, false)), false, (.mv (.t 0))⟩, ⟨(some 29), (some (27, false)), false, (.bin .eql (.t 28) (.c (.int .u8 3)))⟩, ⟨(some 30), (some (27, false)), false, (.mv (.t 29))⟩, ⟨(some 31), (some (30, true)), false, (.mv (.t 1))⟩, ⟨(some 32), (some (30, true)), false, (.bin .eql (.t 31) (.c (.int .u8 4)))⟩, ⟨(some 33), (some (27, false)), false, (.pick (.t 30) (.t 32) (.c (.bool false)))⟩, ⟨(some 34), none, false, (.pick (.t 27) (.c (.bool true)) (.t 33))⟩, ⟨(some 4), none, false, (.mv (.t 34))⟩])
 .ret))
theorem l58 : ∃ c, f58.body = some c ∧ liteC prog f58.ntmps c = some q58 := ⟨_, rfl, by kernel_rfl⟩
theorem e58 : prog.funcs[58]? = some f58 := by kernel_rfl
theorem r58 : mapO (resOf prog) f58.results.toList = some [(.t 4)] := by kernel_rfl
theorem n58 : f58.ntmps = 35 := rfl
def T58 : TE := .fn q58 [(.t 4)] 35
theorem te58 : TEOK prog 58 T58 := te_fn e58 l58 rfl r58 n58

def q59 : RQ :=
 (.seq (.reg [⟨(some 4), none, false, (.box (.t 0))⟩, ⟨(some 8), none, false, (.mv (.c (.int .i64 0)))⟩])
 (.seq (.reg [⟨(some 10), none, true, (.ld true 2 (.t 4))⟩, ⟨(some 11), none, true, (.mv (.t 1))⟩, ⟨(some 12), none, true, (.mv (.t 2))⟩, ⟨(some 13), none, false, (.cal 35 [(.t 10), (.t 11), (.t 12)])⟩, ⟨(some 9), none, false, (.mv (.t 13))⟩])
 (.seq (.seq (.reg [⟨(some 14), none, false, (.mv (.t 9))⟩, ⟨(some 15), none, false, (.bin .eql (.t 14) (.c (.int .i64 0)))⟩, ⟨(some 16), none, false, (.mv (.t 15))⟩, ⟨(some 17), (some (16, true)), false, (.mv (.t 3))⟩, ⟨(some 18), (some (16, true)), false, (.bin .gtr (.t 17) (.c (.int .u64 4611686018427387904)))⟩, ⟨(some 19), none, false, (.pick (.t 16) (.t 18) (.c (.bool false)))⟩])
 (.cond (.t 19)
 (.seq (.reg [⟨(some 8), none, false, (.mv (.c (.int .i64 2)))⟩])
 .ret)
 .skip))
 (.seq (.reg [⟨(some 20), none, false, (.mv (.t 9))⟩, ⟨(some 8), none, false, (.mv (.t 20))⟩])
 .ret))))
theorem l59 : ∃ c, f59.body = some c ∧ liteC prog f59.ntmps c = some q59 := ⟨_, rfl, by kernel_rfl⟩
theorem e59 : prog.funcs[59]? = some f59 := by kernel_rfl
theorem r59 : mapO (resOf prog) f59.results.toList = some [(.t 8)] := by kernel_rfl
theorem n59 : f59.ntmps = 21 := rfl
def T59 : TE := .fn q59 [(.t 8)] 21
theorem te59 : TEOK prog 59 T59 := te_fn e59 l59 rfl r59 n59

def q60 : RQ :=
 (.seq (.reg [⟨(some 3), none, false, (.box (.t 0))⟩, ⟨(some 6), none, false, (.mv (.c (.int .i64 0)))⟩])
 (.seq (.seq (.drw [(false, ⟨(some 7), none, false, (.mv (.t 2))⟩), (false, ⟨(some 8), none, false, (.mv (.t 1))⟩), (false, ⟨(some 9), none, false, (.cv .u64 (.t 8))⟩), (false, ⟨(some 10), none, false, (.bin .quo (.t 7) (.t 9))⟩), (false, ⟨(some 11), none, false, (.fa 0 (.t 3))⟩), (false, ⟨(some 12), none, false, (.ld false 1 (.t 11))⟩), (false, ⟨(some 13), none, false, (.bin .eql (.t 10) (.t 12))⟩)] [])
 (.cond (.t 13)
 (.seq (.reg [⟨(some 14), none, false, (.fa 1 (.t 3))⟩, ⟨(some 15), none, false, (.ld false 1 (.t 14))⟩, ⟨(some 6), none, false, (.mv (.t 15))⟩])
 .ret)
 .skip))
 (.seq (.reg [⟨(some 6), none, false, (.mv (.c (.int .i64 0)))⟩])
 .ret)))
theorem l60 : ∃ c, f60.body = some c ∧ liteC prog f60.ntmps c = some q60 := ⟨_, rfl, by kernel_rfl⟩
theorem e60 : prog.funcs[60]? = some f60 := by kernel_rfl
theorem r60 : mapO (resOf prog) f60.results.toList = some [(.t 6)] := by kernel_rfl
theorem n60 : f60.ntmps = 16 := rfl
def T60 : TE := .fn q60 [(.t 6)] 16
theorem te60 : TEOK prog 60 T60 := te_fn e60 l60 rfl r60 n60

def q61 : RQ :=
 (.seq (.reg [⟨(some 5), none, false, (.box (.t 0))⟩, ⟨(some 6), none, false, (.box (.t 1))⟩, ⟨(some 10), none, false, (.alloc [.nils, .nils, (.int .u64 0), (.int .i64 0)])⟩, ⟨(some 11), none, false, (.mv (.c (.int .i64 0)))⟩, ⟨(some 12), none, false, (.mv (.c (.int .i64 0)))⟩])
 (.seq (.reg [⟨(some 18), none, true, (.ld true 8 (.t 5))⟩, ⟨(some 19), none, true, (.ld true 4 (.t 6))⟩, ⟨(some 20), none, false, (.cal 38 [(.t 18), (.t 19)])⟩, ⟨(some 13), none, false, (.mv (.t 20))⟩])
 (.seq (.seq (.reg [⟨(some 21), none, false, (.mv (.t 13))⟩, ⟨(some 22), none, false, (.bin .neq (.t 21) (.c (.int .i64 0)))⟩])
 (.cond (.t 22)
 (.seq (.reg [⟨(some 23), none, false, (.build [.nils, .nils, (.int .u64 0), (.int .i64 0)] [])⟩, ⟨(some 24), none, false, (.mv (.t 13))⟩, ⟨none, none, false, (.st 4 (.t 10) (.t 23))⟩, ⟨(some 11), none, false, (.mv (.c (.int .i64 0)))⟩, ⟨(some 12), none, false, (.mv (.t 24))⟩])
 .ret)
 .skip))
 (.seq (.seq (.reg [⟨(some 25), none, false, (.mv (.t 2))⟩, ⟨(some 26), none, false, (.bin .lss (.t 25) (.c (.int .i64 0)))⟩, ⟨(some 27), none, false, (.mv (.t 26))⟩, ⟨(some 28), (some (27, false)), false, (.mv (.t 2))⟩, ⟨(some 29), (some (27, false)), false, (.fa 1 (.t 5))⟩, ⟨(some 30), (some (27, false)), false, (.ld false 1 (.t 29))⟩, ⟨(some 31), (some (27, false)), false, (.len (.t 30))⟩, ⟨(some 32), (some (27, false)), false, (.bin .geq (.t 28) (.t 31))⟩, ⟨(some 33), none, false, (.pick (.t 27) (.c (.bool true)) (.t 32))⟩, ⟨(some 34), none, false, (.mv (.t 33))⟩, ⟨(some 35), (some (34, false)), false, (.mv (.t 3))⟩, ⟨(some 36), (some (34, false)), false, (.bin .lss (.t 35) (.c (.int .i64 0)))⟩, ⟨(some 37), none, false, (.pick (.t 34) (.c (.bool true)) (.t 36))⟩, ⟨(some 38), none, false, (.mv (.t 37))⟩, ⟨(some 39), (some (38, false)), false, (.mv (.t 3))⟩, ⟨(some 40), (some (38, false)), false, (.fa 2 (.t 5))⟩, ⟨(some 41), (some (38, false)), false, (.ld false 1 (.t 40))⟩, ⟨(some 42), (some (38, false)), false, (.len (.t 41))⟩, ⟨(some 43), (some (38, false)), false, (.bin .geq (.t 39) (.t 42))⟩, ⟨(some 44), none, false, (.pick (.t 38) (.c (.bool true)) (.t 43))⟩, ⟨(some 45), none, false, (.mv (.t 44))⟩, ⟨(some 46), (some (45, false)), false, (.mv (.t 4))⟩, ⟨(some 47), (some (45, false)), false, (.bin .gtr (.t 46) (.c (.int .u64 4611686018427387904)))⟩, ⟨(some 48), none, false, (.pick (.t 45) (.c (.bool true)) (.t 47))⟩])
 (.cond (.t 48)
 (.seq (.reg [⟨(some 49), none, false, (.build [.nils, .nils, (.int .u64 0), (.int .i64 0)] [])⟩, ⟨none, none, false, (.st 4 (.t 10) (.t 49))⟩, ⟨(some 11), none, false, (.mv (.c (.int .i64 0)))⟩, ⟨(some 12), none, false, (.mv (.c (.int .i64 2)))⟩])
 .ret)
 .skip))
 (.seq (.seq (.reg [⟨(some 50), none, false, (.fa 0 (.t 6))⟩, ⟨(some 51), none, false, (.ld false 1 (.t 50))⟩, ⟨(some 52), none, false, (.len (.t 51))⟩, ⟨(some 53), none, false, (.bin .eql (.t 52) (.c (.int .i64 64)))⟩])
 (.cond (.t 53)
 (.seq (.reg [⟨(some 54), none, false, (.build [.nils, .nils, (.int .u64 0), (.int .i64 0)] [])⟩, ⟨none, none, false, (.st 4 (.t 10) (.t 54))⟩, ⟨(some 11), none, false, (.mv (.c (.int .i64 0)))⟩, ⟨(some 12), none, false, (.mv (.c (.int .i64 4)))⟩])
 .ret)
 .skip))
 (.seq (.seq (.reg [⟨(some 55), none, false, (.fa 1 (.t 6))⟩, ⟨(some 56), none, false, (.ld false 1 (.t 55))⟩, ⟨(some 57), none, false, (.len (.t 56))⟩, ⟨(some 58), none, false, (.fa 5 (.t 5))⟩, ⟨(some 59), none, false, (.ld false 1 (.t 58))⟩, ⟨(some 60), none, false, (.bin .eql (.t 57) (.t 59))⟩])
 (.cond (.t 60)
 (.seq (.reg [⟨(some 61), none, false, (.build [.nils, .nils, (.int .u64 0), (.int .i64 0)] [])⟩, ⟨none, none, false, (.st 4 (.t 10) (.t 61))⟩, ⟨(some 11), none, false, (.mv (.c (.int .i64 0)))⟩, ⟨(some 12), none, false, (.mv (.c (.int .i64 9)))⟩])
 .ret)
 .skip))
 (.seq (.reg [⟨(some 63), none, false, (.fa 2 (.t 6))⟩, ⟨(some 64), none, true, (.ld true 2 (.t 63))⟩, ⟨(some 65), none, false, (.fa 7 (.t 5))⟩, ⟨(some 66), none, true, (.ld false 1 (.t 65))⟩, ⟨(some 67), none, false, (.fa 6 (.t 5))⟩, ⟨(some 68), none, true, (.ld false 1 (.t 67))⟩, ⟨(some 69), none, true, (.mv (.t 4))⟩, ⟨(some 70), none, false, (.cal 34 [(.t 64), (.t 66), (.t 68), (.t 69)])⟩, ⟨(some 62), none, false, (.mv (.t 70))⟩, ⟨(some 71), none, false, (.ext (.t 62) 0)⟩, ⟨(some 72), none, false, (.ext (.t 62) 1)⟩, ⟨(some 14), none, false, (.alloc [(.int .u64 0), (.int .i64 0)])⟩, ⟨none, none, false, (.st 2 (.t 14) (.t 71))⟩, ⟨(some 13), none, false, (.mv (.t 72))⟩])
 (.seq (.seq (.reg [⟨(some 73), none, false, (.mv (.t 13))⟩, ⟨(some 74), none, false, (.bin .neq (.t 73) (.c (.int .i64 0)))⟩])
 (.cond (.t 74)
 (.seq (.reg [⟨(some 75), none, false, (.build [.nils, .nils, (.int .u64 0), (.int .i64 0)] [])⟩, ⟨(some 76), none, false, (.mv (.t 13))⟩, ⟨none, none, false, (.st 4 (.t 10) (.t 75))⟩, ⟨(some 11), none, false, (.mv (.c (.int .i64 0)))⟩, ⟨(some 12), none, false, (.mv (.t 76))⟩])
 .ret)
 .skip))
 (.seq (.reg [⟨(some 77), none, false, (.fa 0 (.t 6))⟩, ⟨(some 78), none, false, (.ld false 1 (.t 77))⟩, ⟨(some 79), none, false, (.len (.t 78))⟩, ⟨(some 80), none, false, (.bin .add (.t 79) (.c (.int .i64 1)))⟩, ⟨(some 15), none, false, (.mv (.t 80))⟩])
 (.seq (.reg [⟨(some 82), none, true, (.mv (.t 15))⟩, ⟨(some 83), none, true, (.mv (.t 2))⟩, ⟨(some 84), none, true, (.mv (.t 3))⟩, ⟨(some 85), none, true, (.mv (.t 4))⟩, ⟨(some 86), none, false, (.cal 30 [(.t 82), (.t 83), (.t 84), (.t 85)])⟩, ⟨(some 81), none, false, (.mv (.t 86))⟩, ⟨(some 87), none, false, (.ext (.t 81) 0)⟩, ⟨(some 88), none, false, (.ext (.t 81) 1)⟩, ⟨(some 16), none, false, (.alloc [(.int .i64 0), (.int .i64 0), (.int .i64 0), (.int .u8 0), (.int .u64 0), (.int .u64 0)])⟩, ⟨none, none, false, (.st 6 (.t 16) (.t 87))⟩, ⟨(some 17), none, false, (.mv (.t 88))⟩])
 (.seq (.reg [⟨(some 89), none, true, (.ld true 4 (.t 6))⟩, ⟨(some 90), none, false, (.cal 37 [(.t 89)])⟩, ⟨none, none, false, (.st 4 (.t 6) (.t 90))⟩])
 (.seq (.reg [⟨(some 91), none, false, (.fa 0 (.t 6))⟩, ⟨(some 92), none, false, (.ld false 1 (.t 91))⟩, ⟨(some 93), none, false, (.ld true 6 (.t 16))⟩, ⟨(some 94), none, true, (.bslice 6 1 [(.int .i64 0), (.int .i64 0), (.int .i64 0), (.int .u8 0), (.int .u64 0), (.int .u64 0)] [(0, (.t 93))])⟩, ⟨(some 95), none, false, (.app 6 48 [(.int .i64 0), (.int .i64 0), (.int .i64 0), (.int .u8 0), (.int .u64 0), (.int .u64 0)] (.t 92) (.t 94))⟩, ⟨(some 96), none, false, (.fa 0 (.t 6))⟩, ⟨none, none, false, (.st 1 (.t 96) (.t 95))⟩])
 (.seq (.reg [⟨(some 97), none, false, (.fa 0 (.t 6))⟩, ⟨(some 98), none, true, (.ld false 1 (.t 97))⟩, ⟨(some 99), none, false, (.cal 70 [(.t 98)])⟩, ⟨(some 100), none, false, (.fa 1 (.t 6))⟩, ⟨none, none, false, (.st 1 (.t 100) (.t 99))⟩])
 (.seq (.reg [⟨(some 101), none, false, (.ld true 2 (.t 14))⟩, ⟨(some 102), none, false, (.fa 2 (.t 6))⟩, ⟨none, none, false, (.st 2 (.t 102) (.t 101))⟩])
 (.seq (.reg [⟨(some 103), none, false, (.ld true 4 (.t 6))⟩, ⟨(some 104), none, false, (.mv (.t 15))⟩, ⟨none, none, false, (.st 4 (.t 10) (.t 103))⟩, ⟨(some 11), none, false, (.mv (.t 104))⟩, ⟨(some 12), none, false, (.mv (.c (.int .i64 0)))⟩])
 .ret)))))))))))))))
theorem l61 : ∃ c, f61.body = some c ∧ liteC prog f61.ntmps c = some q61 := ⟨_, rfl, by kernel_rfl⟩
theorem e61 : prog.funcs[61]? = some f61 := by kernel_rfl
theorem r61 : mapO (resOf prog) f61.results.toList = some [(.c 10 true 4), (.t 11), (.t 12)] := by kernel_rfl
theorem n61 : f61.ntmps = 105 := rfl
def T61 : TE := .fn q61 [(.c 10 true 4), (.t 11), (.t 12)] 105
theorem te61 : TEOK prog 61 T61 := te_fn e61 l61 rfl r61 n61

def q62 : RQ :=
 (.seq (.reg [⟨(some 3), none, false, (.box (.t 0))⟩, ⟨(some 4), none, false, (.box (.t 1))⟩, ⟨(some 6), none, false, (.alloc [.nils, .nils, (.int .u64 0), (.int .i64 0)])⟩, ⟨(some 7), none, false, (.mv (.c (.int .i64 0)))⟩])
 (.seq (.reg [⟨(some 8), none, true, (.ld true 8 (.t 3))⟩, ⟨(some 9), none, true, (.ld true 4 (.t 4))⟩, ⟨(some 10), none, true, (.mv (.t 2))⟩, ⟨(some 11), none, false, (.cal 80 [(.t 8), (.t 9), (.t 10), (.c (.int .u8 5)), (.c (.int .u64 0))])⟩, ⟨(some 12), none, false, (.ext (.t 11) 0)⟩, ⟨(some 13), none, false, (.ext (.t 11) 1)⟩, ⟨none, none, false, (.st 4 (.t 6) (.t 12))⟩, ⟨(some 7), none, false, (.mv (.t 13))⟩])
 .ret))
theorem l62 : ∃ c, f62.body = some c ∧ liteC prog f62.ntmps c = some q62 := ⟨_, rfl, by kernel_rfl⟩
theorem e62 : prog.funcs[62]? = some f62 := by kernel_rfl
theorem r62 : mapO (resOf prog) f62.results.toList = some [(.c 6 true 4), (.t 7)] := by kernel_rfl
theorem n62 : f62.ntmps = 14 := rfl
def T62 : TE := .fn q62 [(.c 6 true 4), (.t 7)] 14
theorem te62 : TEOK prog 62 T62 := te_fn e62 l62 rfl r62 n62

def q63 : RQ :=
 (.seq (.reg [⟨(some 2), none, false, (.box (.t 0))⟩, ⟨(some 3), none, false, (.box (.t 1))⟩, ⟨(some 4), none, false, (.alloc [.nils, .nils, (.int .u64 0), (.int .i64 0)])⟩, ⟨(some 5), none, false, (.mv (.c (.int .i64 0)))⟩, ⟨(some 6), none, false, (.mv (.c (.int .i64 0)))⟩])
 (.seq (.reg [⟨(some 9), none, true, (.ld true 8 (.t 2))⟩, ⟨(some 10), none, true, (.ld true 4 (.t 3))⟩, ⟨(some 11), none, false, (.cal 38 [(.t 9), (.t 10)])⟩, ⟨(some 7), none, false, (.mv (.t 11))⟩])
 (.seq (.seq (.reg [⟨(some 12), none, false, (.mv (.t 7))⟩, ⟨(some 13), none, false, (.bin .neq (.t 12) (.c (.int .i64 0)))⟩])
 (.cond (.t 13)
 (.seq (.reg [⟨(some 14), none, false, (.build [.nils, .nils, (.int .u64 0), (.int .i64 0)] [])⟩, ⟨(some 15), none, false, (.mv (.t 7))⟩, ⟨none, none, false, (.st 4 (.t 4) (.t 14))⟩, ⟨(some 5), none, false, (.mv (.c (.int .i64 0)))⟩, ⟨(some 6), none, false, (.mv (.t 15))⟩])
 .ret)
 .skip))
 (.seq (.seq (.reg [⟨(some 16), none, false, (.fa 1 (.t 3))⟩, ⟨(some 17), none, false, (.ld false 1 (.t 16))⟩, ⟨(some 18), none, false, (.len (.t 17))⟩, ⟨(some 19), none, false, (.bin .eql (.t 18) (.c (.int .i64 0)))⟩])
 (.cond (.t 19)
 (.seq (.reg [⟨(some 20), none, false, (.build [.nils, .nils, (.int .u64 0), (.int .i64 0)] [])⟩, ⟨none, none, false, (.st 4 (.t 4) (.t 20))⟩, ⟨(some 5), none, false, (.mv (.c (.int .i64 0)))⟩, ⟨(some 6), none, false, (.mv (.c (.int .i64 6)))⟩])
 .ret)
 .skip))
 (.seq (.reg [⟨(some 21), none, false, (.fa 1 (.t 3))⟩, ⟨(some 22), none, false, (.ld false 1 (.t 21))⟩, ⟨(some 23), none, false, (.ias 1 (.t 22) (.c (.int .i64 0)))⟩, ⟨(some 24), none, false, (.ld false 1 (.t 23))⟩, ⟨(some 8), none, false, (.mv (.t 24))⟩])
 (.seq (.reg [⟨(some 26), none, true, (.ld true 8 (.t 2))⟩, ⟨(some 27), none, true, (.ld true 4 (.t 3))⟩, ⟨(some 28), none, true, (.mv (.t 8))⟩, ⟨(some 29), none, false, (.cal 80 [(.t 26), (.t 27), (.t 28), (.c (.int .u8 2)), (.c (.int .u64 0))])⟩, ⟨(some 25), none, false, (.mv (.t 29))⟩, ⟨(some 30), none, false, (.ext (.t 25) 0)⟩, ⟨(some 31), none, false, (.ext (.t 25) 1)⟩, ⟨none, none, false, (.st 4 (.t 3) (.t 30))⟩, ⟨(some 7), none, false, (.mv (.t 31))⟩])
 (.seq (.reg [⟨(some 32), none, false, (.ld true 4 (.t 3))⟩, ⟨(some 33), none, false, (.mv (.t 8))⟩, ⟨(some 34), none, false, (.mv (.t 7))⟩, ⟨none, none, false, (.st 4 (.t 4) (.t 32))⟩, ⟨(some 5), none, false, (.mv (.t 33))⟩, ⟨(some 6), none, false, (.mv (.t 34))⟩])
 .ret)))))))
theorem l63 : ∃ c, f63.body = some c ∧ liteC prog f63.ntmps c = some q63 := ⟨_, rfl, by kernel_rfl⟩
theorem e63 : prog.funcs[63]? = some f63 := by kernel_rfl
theorem r63 : mapO (resOf prog) f63.results.toList = some [(.c 4 true 4), (.t 5), (.t 6)] := by kernel_rfl
theorem n63 : f63.ntmps = 35 := rfl
def T63 : TE := .fn q63 [(.c 4 true 4), (.t 5), (.t 6)] 35
theorem te63 : TEOK prog 63 T63 := te_fn e63 l63 rfl r63 n63

def q64 : RQ :=
 (.seq (.reg [⟨(some 3), none, false, (.box (.t 0))⟩, ⟨(some 4), none, false, (.box (.t 1))⟩, ⟨(some 6), none, false, (.alloc [.nils, .nils, (.int .u64 0), (.int .i64 0)])⟩, ⟨(some 7), none, false, (.mv (.c (.int .i64 0)))⟩])
 (.seq (.reg [⟨(some 8), none, true, (.ld true 8 (.t 3))⟩, ⟨(some 9), none, true, (.ld true 4 (.t 4))⟩, ⟨(some 10), none, true, (.mv (.t 2))⟩, ⟨(some 11), none, false, (.cal 80 [(.t 8), (.t 9), (.t 10), (.c (.int .u8 3)), (.c (.int .u64 0))])⟩, ⟨(some 12), none, false, (.ext (.t 11) 0)⟩, ⟨(some 13), none, false, (.ext (.t 11) 1)⟩, ⟨none, none, false, (.st 4 (.t 6) (.t 12))⟩, ⟨(some 7), none, false, (.mv (.t 13))⟩])
 .ret))
theorem l64 : ∃ c, f64.body = some c ∧ liteC prog f64.ntmps c = some q64 := ⟨_, rfl, by kernel_rfl⟩
theorem e64 : prog.funcs[64]? = some f64 := by kernel_rfl
theorem r64 : mapO (resOf prog) f64.results.toList = some [(.c 6 true 4), (.t 7)] := by kernel_rfl
theorem n64 : f64.ntmps = 14 := rfl
def T64 : TE := .fn q64 [(.c 6 true 4), (.t 7)] 14
theorem te64 : TEOK prog 64 T64 := te_fn e64 l64 rfl r64 n64

def q65 : RQ :=
 (.seq (.reg [⟨(some 4), none, false, (.box (.t 0))⟩, ⟨(some 5), none, false, (.box (.t 1))⟩, ⟨(some 8), none, false, (.alloc [.nils, .nils, (.int .u64 0), (.int .i64 0)])⟩, ⟨(some 9), none, false, (.mv (.c (.int .i64 0)))⟩])
 (.seq (.reg [⟨(some 10), none, true, (.ld true 8 (.t 4))⟩, ⟨(some 11), none, true, (.ld true 4 (.t 5))⟩, ⟨(some 12), none, true, (.mv (.t 2))⟩, ⟨(some 13), none, true, (.mv (.t 3))⟩, ⟨(some 14), none, false, (.cal 80 [(.t 10), (.t 11), (.t 12), (.c (.int .u8 4)), (.t 13)])⟩, ⟨(some 15), none, false, (.ext (.t 14) 0)⟩, ⟨(some 16), none, false, (.ext (.t 14) 1)⟩, ⟨none, none, false, (.st 4 (.t 8) (.t 15))⟩, ⟨(some 9), none, false, (.mv (.t 16))⟩])
 .ret))
theorem l65 : ∃ c, f65.body = some c ∧ liteC prog f65.ntmps c = some q65 := ⟨_, rfl, by kernel_rfl⟩
theorem e65 : prog.funcs[65]? = some f65 := by kernel_rfl
theorem r65 : mapO (resOf prog) f65.results.toList = some [(.c 8 true 4), (.t 9)] := by kernel_rfl
theorem n65 : f65.ntmps = 17 := rfl
def T65 : TE := .fn q65 [(.c 8 true 4), (.t 9)] 17
theorem te65 : TEOK prog 65 T65 := te_fn e65 l65 rfl r65 n65

def q66 : RQ :=
 (.seq (.reg [⟨(some 3), none, false, (.box (.t 0))⟩, ⟨(some 4), none, false, (.box (.t 1))⟩, ⟨(some 6), none, false, (.alloc [(.int .i64 0), (.int .i64 0), (.int .i64 0), (.int .u8 0), (.int .u64 0), (.int .u64 0)])⟩, ⟨(some 7), none, false, (.mv (.c (.int .i64 0)))⟩])
 (.seq (.reg [⟨(some 9), none, true, (.ld true 8 (.t 3))⟩, ⟨(some 10), none, true, (.ld true 4 (.t 4))⟩, ⟨(some 11), none, false, (.cal 38 [(.t 9), (.t 10)])⟩, ⟨(some 8), none, false, (.mv (.t 11))⟩])
 (.seq (.seq (.reg [⟨(some 12), none, false, (.mv (.t 8))⟩, ⟨(some 13), none, false, (.bin .neq (.t 12) (.c (.int .i64 0)))⟩])
 (.cond (.t 13)
 (.seq (.reg [⟨(some 14), none, false, (.build [(.int .i64 0), (.int .i64 0), (.int .i64 0), (.int .u8 0), (.int .u64 0), (.int .u64 0)] [])⟩, ⟨(some 15), none, false, (.mv (.t 8))⟩, ⟨none, none, false, (.st 6 (.t 6) (.t 14))⟩, ⟨(some 7), none, false, (.mv (.t 15))⟩])
 .ret)
 .skip))
 (.seq (.seq (.reg [⟨(some 16), none, false, (.mv (.t 2))⟩, ⟨(some 17), none, false, (.bin .lss (.t 16) (.c (.int .i64 1)))⟩, ⟨(some 18), none, false, (.mv (.t 17))⟩, ⟨(some 19), (some (18, false)), false, (.mv (.t 2))⟩, ⟨(some 20), (some (18, false)), false, (.fa 0 (.t 4))⟩, ⟨(some 21), (some (18, false)), false, (.ld false 1 (.t 20))⟩, ⟨(some 22), (some (18, false)), false, (.len (.t 21))⟩, ⟨(some 23), (some (18, false)), false, (.bin .gtr (.t 19) (.t 22))⟩, ⟨(some 24), none, false, (.pick (.t 18) (.c (.bool true)) (.t 23))⟩])
 (.cond (.t 24)
 (.seq (.reg [⟨(some 25), none, false, (.build [(.int .i64 0), (.int .i64 0), (.int .i64 0), (.int .u8 0), (.int .u64 0), (.int .u64 0)] [])⟩, ⟨none, none, false, (.st 6 (.t 6) (.t 25))⟩, ⟨(some 7), none, false, (.mv (.c (.int .i64 6)))⟩])
 .ret)
 .skip))
 (.seq (.reg [⟨(some 26), none, false, (.fa 0 (.t 4))⟩, ⟨(some 27), none, false, (.ld false 1 (.t 26))⟩, ⟨(some 28), none, false, (.mv (.t 2))⟩, ⟨(some 29), none, false, (.bin .sub (.t 28) (.c (.int .i64 1)))⟩, ⟨(some 30), none, false, (.ias 6 (.t 27) (.t 29))⟩, ⟨(some 31), none, false, (.ld true 6 (.t 30))⟩, ⟨none, none, false, (.st 6 (.t 6) (.t 31))⟩, ⟨(some 7), none, false, (.mv (.c (.int .i64 0)))⟩])
 .ret)))))
theorem l66 : ∃ c, f66.body = some c ∧ liteC prog f66.ntmps c = some q66 := ⟨_, rfl, by kernel_rfl⟩
theorem e66 : prog.funcs[66]? = some f66 := by kernel_rfl
theorem r66 : mapO (resOf prog) f66.results.toList = some [(.c 6 true 6), (.t 7)] := by kernel_rfl
theorem n66 : f66.ntmps = 32 := rfl
def T66 : TE := .fn q66 [(.c 6 true 6), (.t 7)] 32
theorem te66 : TEOK prog 66 T66 := te_fn e66 l66 rfl r66 n66

def q67 : RQ :=
 (.seq (.reg [⟨(some 2), none, false, (.box (.t 0))⟩, ⟨(some 3), none, false, (.box (.t 1))⟩, ⟨(some 4), none, false, (.alloc [(.int .i64 0), (.int .i64 0), (.int .i64 0), (.int .i64 0), (.int .i64 0), (.int .i64 0)])⟩, ⟨(some 5), none, false, (.mv (.c (.int .i64 0)))⟩])
 (.seq (.reg [⟨(some 9), none, true, (.ld true 8 (.t 2))⟩, ⟨(some 10), none, true, (.ld true 4 (.t 3))⟩, ⟨(some 11), none, false, (.cal 38 [(.t 9), (.t 10)])⟩, ⟨(some 6), none, false, (.mv (.t 11))⟩])
 (.seq (.seq (.reg [⟨(some 12), none, false, (.mv (.t 6))⟩, ⟨(some 13), none, false, (.bin .neq (.t 12) (.c (.int .i64 0)))⟩])
 (.cond (.t 13)
 (.seq (.reg [⟨(some 14), none, false, (.build [(.int .i64 0), (.int .i64 0), (.int .i64 0), (.int .i64 0), (.int .i64 0), (.int .i64 0)] [])⟩, ⟨(some 15), none, false, (.mv (.t 6))⟩, ⟨none, none, false, (.st 6 (.t 4) (.t 14))⟩, ⟨(some 5), none, false, (.mv (.t 15))⟩])
 .ret)
 .skip))
 (.seq (.reg [⟨(some 7), none, false, (.alloc [(.int .i64 0), (.int .i64 0), (.int .i64 0), (.int .i64 0), (.int .i64 0), (.int .i64 0)])⟩])
 (.seq (.seq (.reg [⟨(some 8), none, false, (.mv (.c (.int .i64 0)))⟩])
 (.block 0 (.loop (.seq (.seq (.reg [⟨(some 16), none, false, (.mv (.t 8))⟩, ⟨(some 17), none, false, (.fa 0 (.t 3))⟩, ⟨(some 18), none, false, (.ld false 1 (.t 17))⟩, ⟨(some 19), none, false, (.len (.t 18))⟩, ⟨(some 20), none, false, (.bin .lss (.t 16) (.t 19))⟩])
 (.cond (.t 20)
 .skip
 (.exit 0)))
 (.seq (.block 1 (.seq (.reg [⟨(some 23), none, false, (.iaa 6 1 (.t 7) (.c (.int .i64 0)))⟩, ⟨(some 24), none, false, (.ld false 1 (.t 23))⟩, ⟨(some 25), none, false, (.bin .add (.t 24) (.c (.int .i64 1)))⟩, ⟨(some 26), none, false, (.iaa 6 1 (.t 7) (.c (.int .i64 0)))⟩, ⟨none, none, false, (.st 1 (.t 26) (.t 25))⟩])
 (.reg [⟨(some 27), none, false, (.fa 0 (.t 3))⟩, ⟨(some 28), none, false, (.ld false 1 (.t 27))⟩, ⟨(some 29), none, false, (.mv (.t 8))⟩, ⟨(some 30), none, false, (.ias 6 (.t 28) (.t 29))⟩, ⟨(some 31), none, false, (.fa 3 (.t 30))⟩, ⟨(some 32), none, false, (.ld false 1 (.t 31))⟩, ⟨(some 33), none, false, (.iaa 6 1 (.t 7) (.t 32))⟩, ⟨(some 34), none, false, (.ld false 1 (.t 33))⟩, ⟨(some 35), none, false, (.bin .add (.t 34) (.c (.int .i64 1)))⟩, ⟨(some 36), none, false, (.iaa 6 1 (.t 7) (.t 32))⟩, ⟨none, none, false, (.st 1 (.t 36) (.t 35))⟩])))
 (.reg [⟨(some 21), none, false, (.mv (.t 8))⟩, ⟨(some 22), none, false, (.bin .add (.t 21) (.c (.int .i64 1)))⟩, ⟨(some 8), none, false, (.mv (.t 22))⟩]))))))
 (.seq (.reg [⟨(some 37), none, false, (.ld true 6 (.t 7))⟩, ⟨none, none, false, (.st 6 (.t 4) (.t 37))⟩, ⟨(some 5), none, false, (.mv (.c (.int .i64 0)))⟩])
 .ret))))))
theorem l67 : ∃ c, f67.body = some c ∧ liteC prog f67.ntmps c = some q67 := ⟨_, rfl, by kernel_rfl⟩
theorem e67 : prog.funcs[67]? = some f67 := by kernel_rfl
theorem r67 : mapO (resOf prog) f67.results.toList = some [(.c 4 true 6), (.t 5)] := by kernel_rfl
theorem n67 : f67.ntmps = 38 := rfl
def T67 : TE := .fn q67 [(.c 4 true 6), (.t 5)] 38
theorem te67 : TEOK prog 67 T67 := te_fn e67 l67 rfl r67 n67

def q68 : RQ :=
 (.seq (.reg [⟨(some 4), none, false, (.mv (.c (.bool false)))⟩])
 (.seq (.seq (.reg [⟨(some 6), none, false, (.mv (.t 0))⟩, ⟨(some 7), none, false, (.len (.t 6))⟩, ⟨(some 8), none, false, (.mv (.t 1))⟩, ⟨(some 9), none, false, (.len (.t 8))⟩, ⟨(some 10), none, false, (.bin .neq (.t 7) (.t 9))⟩])
 (.cond (.t 10)
 (.seq (.reg [⟨(some 4), none, false, (.mv (.c (.bool false)))⟩])
 .ret)
 .skip))
 (.seq (.seq (.reg [⟨(some 5), none, false, (.mv (.c (.int .i64 0)))⟩])
 (.block 0 (.loop (.seq (.seq (.reg [⟨(some 11), none, false, (.mv (.t 5))⟩, ⟨(some 12), none, false, (.mv (.t 0))⟩, ⟨(some 13), none, false, (.len (.t 12))⟩, ⟨(some 14), none, false, (.bin .lss (.t 11) (.t 13))⟩])
 (.cond (.t 14)
 .skip
 (.exit 0)))
 (.seq (.block 1 (.seq (.drw [(false, ⟨(some 17), none, false, (.mv (.t 0))⟩), (false, ⟨(some 18), none, false, (.mv (.t 5))⟩), (false, ⟨(some 19), none, false, (.ias 1 (.t 17) (.t 18))⟩), (false, ⟨(some 20), none, false, (.ld false 1 (.t 19))⟩), (false, ⟨(some 21), none, false, (.mv (.t 1))⟩), (false, ⟨(some 22), none, false, (.mv (.t 5))⟩), (false, ⟨(some 23), none, false, (.ias 1 (.t 21) (.t 22))⟩), (false, ⟨(some 24), none, false, (.ld false 1 (.t 23))⟩), (false, ⟨(some 25), none, false, (.bin .neq (.t 20) (.t 24))⟩)] [])
 (.cond (.t 25)
 (.seq (.reg [⟨(some 4), none, false, (.mv (.c (.bool false)))⟩])
 .ret)
 .skip)))
 (.reg [⟨(some 15), none, false, (.mv (.t 5))⟩, ⟨(some 16), none, false, (.bin .add (.t 15) (.c (.int .i64 1)))⟩, ⟨(some 5), none, false, (.mv (.t 16))⟩]))))))
 (.seq (.reg [⟨(some 4), none, false, (.mv (.c (.bool true)))⟩])
 .ret))))
theorem l68 : ∃ c, f68.body = some c ∧ liteC prog f68.ntmps c = some q68 := ⟨_, rfl, by kernel_rfl⟩
theorem e68 : prog.funcs[68]? = some f68 := by kernel_rfl
theorem r68 : mapO (resOf prog) f68.results.toList = some [(.t 4)] := by kernel_rfl
theorem n68 : f68.ntmps = 26 := rfl
def T68 : TE := .fn q68 [(.t 4)] 26
theorem te68 : TEOK prog 68 T68 := te_fn e68 l68 rfl r68 n68

def q69 : RQ :=
 (.seq (.reg [⟨(some 4), none, false, (.mv (.c (.bool false)))⟩])
 (.seq (.reg [⟨(some 5), none, false, (.mv (.t 0))⟩, ⟨(some 6), none, false, (.bin .geq (.t 5) (.c (.int .i64 1)))⟩, ⟨(some 7), none, false, (.mv (.t 6))⟩, ⟨(some 8), (some (7, true)), false, (.mv (.t 0))⟩, ⟨(some 9), (some (7, true)), false, (.mv (.t 1))⟩, ⟨(some 10), (some (7, true)), false, (.bin .leq (.t 8) (.t 9))⟩, ⟨(some 11), none, false, (.pick (.t 7) (.t 10) (.c (.bool false)))⟩, ⟨(some 4), none, false, (.mv (.t 11))⟩])
 .ret))
theorem l69 : ∃ c, f69.body = some c ∧ liteC prog f69.ntmps c = some q69 := ⟨_, rfl, by kernel_rfl⟩
theorem e69 : prog.funcs[69]? = some f69 := by kernel_rfl
theorem r69 : mapO (resOf prog) f69.results.toList = some [(.t 4)] := by kernel_rfl
theorem n69 : f69.ntmps = 12 := rfl
def T69 : TE := .fn q69 [(.t 4)] 12
theorem te69 : TEOK prog 69 T69 := te_fn e69 l69 rfl r69 n69

def q70 : RQ :=
 (.seq (.reg [⟨(some 2), none, false, (.mv (.c .nils))⟩])
 (.seq (.reg [⟨(some 3), none, false, (.mv (.c .nils))⟩])
 (.seq (.seq (.reg [⟨(some 4), none, false, (.mv (.c (.int .i64 0)))⟩])
 (.block 0 (.loop (.seq (.seq (.reg [⟨(some 5), none, false, (.mv (.t 4))⟩, ⟨(some 6), none, false, (.mv (.t 0))⟩, ⟨(some 7), none, false, (.len (.t 6))⟩, ⟨(some 8), none, false, (.bin .lss (.t 5) (.t 7))⟩])
 (.cond (.t 8)
 .skip
 (.exit 0)))
 (.seq (.block 1 (.seq (.reg [⟨(some 11), none, false, (.mv (.t 0))⟩, ⟨(some 12), none, false, (.mv (.t 4))⟩, ⟨(some 13), none, false, (.ias 6 (.t 11) (.t 12))⟩, ⟨(some 14), none, false, (.fa 3 (.t 13))⟩, ⟨(some 15), none, false, (.ld false 1 (.t 14))⟩, ⟨(some 16), none, false, (.bin .eql (.t 15) (.c (.int .u8 1)))⟩])
 (.cond (.t 16)
 (.reg [⟨(some 17), none, false, (.mv (.t 3))⟩, ⟨(some 18), none, false, (.mv (.t 0))⟩, ⟨(some 19), none, false, (.mv (.t 4))⟩, ⟨(some 20), none, false, (.ias 6 (.t 18) (.t 19))⟩, ⟨(some 21), none, false, (.fa 0 (.t 20))⟩, ⟨(some 22), none, false, (.ld false 1 (.t 21))⟩, ⟨(some 23), none, true, (.bslice 1 1 [(.int .i64 0)] [(0, (.t 22))])⟩, ⟨(some 24), none, false, (.app 1 8 [(.int .i64 0)] (.t 17) (.t 23))⟩, ⟨(some 3), none, false, (.mv (.t 24))⟩])
 .skip)))
 (.reg [⟨(some 9), none, false, (.mv (.t 4))⟩, ⟨(some 10), none, false, (.bin .add (.t 9) (.c (.int .i64 1)))⟩, ⟨(some 4), none, false, (.mv (.t 10))⟩]))))))
 (.seq (.reg [⟨(some 25), none, false, (.mv (.t 3))⟩, ⟨(some 2), none, false, (.mv (.t 25))⟩])
 .ret))))
theorem l70 : ∃ c, f70.body = some c ∧ liteC prog f70.ntmps c = some q70 := ⟨_, rfl, by kernel_rfl⟩
theorem e70 : prog.funcs[70]? = some f70 := by kernel_rfl
theorem r70 : mapO (resOf prog) f70.results.toList = some [(.t 2)] := by kernel_rfl
theorem n70 : f70.ntmps = 26 := rfl
def T70 : TE := .fn q70 [(.t 2)] 26
theorem te70 : TEOK prog 70 T70 := te_fn e70 l70 rfl r70 n70

def q71 : RQ :=
 (.seq (.reg [⟨(some 5), none, false, (.box (.t 0))⟩, ⟨(some 6), none, false, (.box (.t 1))⟩, ⟨(some 10), none, false, (.alloc [.nils, .nils, (.int .u64 0), (.int .i64 0)])⟩, ⟨(some 11), none, false, (.mv (.c (.int .i64 0)))⟩])
 (.seq (.reg [⟨(some 16), none, true, (.ld true 8 (.t 5))⟩, ⟨(some 17), none, true, (.ld true 4 (.t 6))⟩, ⟨(some 18), none, false, (.cal 53 [(.t 16), (.t 17)])⟩, ⟨(some 15), none, false, (.mv (.t 18))⟩, ⟨(some 19), none, false, (.ext (.t 15) 0)⟩, ⟨(some 20), none, false, (.ext (.t 15) 1)⟩, ⟨(some 12), none, false, (.alloc [.nils, .nils, (.int .u64 0), (.int .i64 0), .nils, .nils, .nils, (.int .i64 0), (.int .i64 0), (.int .i64 0), (.int .i64 0), (.int .i64 0)])⟩, ⟨none, none, false, (.st 12 (.t 12) (.t 19))⟩, ⟨(some 13), none, false, (.mv (.t 20))⟩])
 (.seq (.seq (.reg [⟨(some 21), none, false, (.mv (.t 13))⟩, ⟨(some 22), none, false, (.bin .neq (.t 21) (.c (.int .i64 0)))⟩])
 (.cond (.t 22)
 (.seq (.reg [⟨(some 23), none, false, (.build [.nils, .nils, (.int .u64 0), (.int .i64 0)] [])⟩, ⟨(some 24), none, false, (.mv (.t 13))⟩, ⟨none, none, false, (.st 4 (.t 10) (.t 23))⟩, ⟨(some 11), none, false, (.mv (.t 24))⟩])
 .ret)
 .skip))
 (.seq (.reg [⟨(some 26), none, true, (.ld true 12 (.t 12))⟩, ⟨(some 27), none, true, (.mv (.t 2))⟩, ⟨(some 28), none, false, (.cal 72 [(.t 26), (.t 27)])⟩, ⟨(some 25), none, false, (.mv (.t 28))⟩, ⟨(some 29), none, false, (.ext (.t 25) 0)⟩, ⟨(some 30), none, false, (.ext (.t 25) 1)⟩, ⟨(some 14), none, false, (.alloc [(.int .i64 0), (.int .i64 0), (.int .i64 0), (.int .u8 0), (.int .u64 0), (.int .u64 0)])⟩, ⟨none, none, false, (.st 6 (.t 14) (.t 29))⟩, ⟨(some 13), none, false, (.mv (.t 30))⟩])
 (.seq (.seq (.reg [⟨(some 31), none, false, (.mv (.t 13))⟩, ⟨(some 32), none, false, (.bin .neq (.t 31) (.c (.int .i64 0)))⟩])
 (.cond (.t 32)
 (.seq (.reg [⟨(some 33), none, false, (.build [.nils, .nils, (.int .u64 0), (.int .i64 0)] [])⟩, ⟨(some 34), none, false, (.mv (.t 13))⟩, ⟨none, none, false, (.st 4 (.t 10) (.t 33))⟩, ⟨(some 11), none, false, (.mv (.t 34))⟩])
 .ret)
 .skip))
 (.seq (.reg [⟨(some 36), none, true, (.ld true 6 (.t 14))⟩, ⟨(some 37), none, true, (.mv (.t 3))⟩, ⟨(some 38), none, true, (.mv (.t 4))⟩, ⟨(some 39), none, false, (.cal 18 [(.t 36), (.t 37), (.t 38)])⟩, ⟨(some 35), none, false, (.mv (.t 39))⟩, ⟨(some 40), none, false, (.ext (.t 35) 0)⟩, ⟨(some 41), none, false, (.ext (.t 35) 1)⟩, ⟨none, none, false, (.st 6 (.t 14) (.t 40))⟩, ⟨(some 13), none, false, (.mv (.t 41))⟩])
 (.seq (.seq (.reg [⟨(some 42), none, false, (.mv (.t 13))⟩, ⟨(some 43), none, false, (.bin .neq (.t 42) (.c (.int .i64 0)))⟩])
 (.cond (.t 43)
 (.seq (.reg [⟨(some 44), none, false, (.build [.nils, .nils, (.int .u64 0), (.int .i64 0)] [])⟩, ⟨(some 45), none, false, (.mv (.t 13))⟩, ⟨none, none, false, (.st 4 (.t 10) (.t 44))⟩, ⟨(some 11), none, false, (.mv (.t 45))⟩])
 .ret)
 .skip))
 (.seq (.reg [⟨(some 46), none, false, (.fa 0 (.t 12))⟩, ⟨(some 47), none, false, (.fa 0 (.t 46))⟩, ⟨(some 48), none, false, (.ld false 1 (.t 47))⟩, ⟨(some 49), none, false, (.mv (.t 2))⟩, ⟨(some 50), none, false, (.bin .sub (.t 49) (.c (.int .i64 1)))⟩, ⟨(some 51), none, false, (.ld true 6 (.t 14))⟩, ⟨(some 52), none, false, (.ias 6 (.t 48) (.t 50))⟩, ⟨none, none, false, (.st 6 (.t 52) (.t 51))⟩])
 (.seq (.reg [⟨(some 53), none, true, (.ld true 12 (.t 12))⟩, ⟨(some 54), none, false, (.cal 81 [(.t 53)])⟩, ⟨(some 55), none, false, (.fa 0 (.t 12))⟩, ⟨(some 56), none, false, (.fa 1 (.t 55))⟩, ⟨none, none, false, (.st 1 (.t 56) (.t 54))⟩])
 (.seq (.reg [⟨(some 57), none, false, (.fa 0 (.t 12))⟩, ⟨(some 58), none, false, (.ld true 4 (.t 57))⟩, ⟨none, none, false, (.st 4 (.t 10) (.t 58))⟩, ⟨(some 11), none, false, (.mv (.c (.int .i64 0)))⟩])
 .ret))))))))))
theorem l71 : ∃ c, f71.body = some c ∧ liteC prog f71.ntmps c = some q71 := ⟨_, rfl, by kernel_rfl⟩
theorem e71 : prog.funcs[71]? = some f71 := by kernel_rfl
theorem r71 : mapO (resOf prog) f71.results.toList = some [(.c 10 true 4), (.t 11)] := by kernel_rfl
theorem n71 : f71.ntmps = 59 := rfl
def T71 : TE := .fn q71 [(.c 10 true 4), (.t 11)] 59
theorem te71 : TEOK prog 71 T71 := te_fn e71 l71 rfl r71 n71

def q72 : RQ :=
 (.seq (.reg [⟨(some 2), none, false, (.box (.t 0))⟩, ⟨(some 4), none, false, (.alloc [(.int .i64 0), (.int .i64 0), (.int .i64 0), (.int .u8 0), (.int .u64 0), (.int .u64 0)])⟩, ⟨(some 5), none, false, (.mv (.c (.int .i64 0)))⟩])
 (.seq (.seq (.reg [⟨(some 6), none, false, (.fa 0 (.t 2))⟩, ⟨(some 7), none, false, (.fa 0 (.t 6))⟩, ⟨(some 8), none, false, (.ld false 1 (.t 7))⟩, ⟨(some 9), none, true, (.len (.t 8))⟩, ⟨(some 10), none, false, (.mv (.t 1))⟩, ⟨(some 11), none, true, (.bslice 1 1 [(.int .i64 0)] [(0, (.t 10))])⟩, ⟨(some 12), none, false, (.cal 50 [(.c (.int .i64 1)), (.t 9), (.t 11)])⟩, ⟨(some 13), none, false, (.not (.t 12))⟩])
 (.cond (.t 13)
 (.seq (.reg [⟨(some 14), none, false, (.build [(.int .i64 0), (.int .i64 0), (.int .i64 0), (.int .u8 0), (.int .u64 0), (.int .u64 0)] [])⟩, ⟨none, none, false, (.st 6 (.t 4) (.t 14))⟩, ⟨(some 5), none, false, (.mv (.c (.int .i64 6)))⟩])
 .ret)
 .skip))
 (.seq (.reg [⟨(some 15), none, false, (.fa 0 (.t 2))⟩, ⟨(some 16), none, false, (.fa 0 (.t 15))⟩, ⟨(some 17), none, false, (.ld false 1 (.t 16))⟩, ⟨(some 18), none, false, (.mv (.t 1))⟩, ⟨(some 19), none, false, (.bin .sub (.t 18) (.c (.int .i64 1)))⟩, ⟨(some 20), none, false, (.ias 6 (.t 17) (.t 19))⟩, ⟨(some 21), none, false, (.ld true 6 (.t 20))⟩, ⟨none, none, false, (.st 6 (.t 4) (.t 21))⟩, ⟨(some 5), none, false, (.mv (.c (.int .i64 0)))⟩])
 .ret)))
theorem l72 : ∃ c, f72.body = some c ∧ liteC prog f72.ntmps c = some q72 := ⟨_, rfl, by kernel_rfl⟩
theorem e72 : prog.funcs[72]? = some f72 := by kernel_rfl
theorem r72 : mapO (resOf prog) f72.results.toList = some [(.c 4 true 6), (.t 5)] := by kernel_rfl
theorem n72 : f72.ntmps = 22 := rfl
def T72 : TE := .fn q72 [(.c 4 true 6), (.t 5)] 22
theorem te72 : TEOK prog 72 T72 := te_fn e72 l72 rfl r72 n72

def q73 : RQ :=
 (.seq (.reg [⟨(some 2), none, false, (.mv (.c .nils))⟩])
 (.seq (.seq (.reg [⟨(some 3), none, false, (.mv (.t 0))⟩, ⟨(some 4), none, false, (.eqn false (.t 3) (.c .nils))⟩])
 (.cond (.t 4)
 (.seq (.reg [⟨(some 2), none, false, (.mv (.c .nils))⟩])
 .ret)
 .skip))
 (.seq (.reg [⟨(some 5), none, false, (.bslice 6 0 [(.int .i64 0), (.int .i64 0), (.int .i64 0), (.int .u8 0), (.int .u64 0), (.int .u64 0)] [])⟩, ⟨(some 6), none, true, (.mv (.t 0))⟩, ⟨(some 7), none, false, (.app 6 48 [(.int .i64 0), (.int .i64 0), (.int .i64 0), (.int .u8 0), (.int .u64 0), (.int .u64 0)] (.t 5) (.t 6))⟩, ⟨(some 2), none, false, (.mv (.t 7))⟩])
 .ret)))
theorem l73 : ∃ c, f73.body = some c ∧ liteC prog f73.ntmps c = some q73 := ⟨_, rfl, by kernel_rfl⟩
theorem e73 : prog.funcs[73]? = some f73 := by kernel_rfl
theorem r73 : mapO (resOf prog) f73.results.toList = some [(.t 2)] := by kernel_rfl
theorem n73 : f73.ntmps = 8 := rfl
def T73 : TE := .fn q73 [(.t 2)] 8
theorem te73 : TEOK prog 73 T73 := te_fn e73 l73 rfl r73 n73

def q74 : RQ :=
 (.seq (.reg [⟨(some 2), none, false, (.mv (.c .nils))⟩])
 (.seq (.seq (.reg [⟨(some 3), none, false, (.mv (.t 0))⟩, ⟨(some 4), none, false, (.eqn false (.t 3) (.c .nils))⟩])
 (.cond (.t 4)
 (.seq (.reg [⟨(some 2), none, false, (.mv (.c .nils))⟩])
 .ret)
 .skip))
 (.seq (.reg [⟨(some 5), none, false, (.bslice 1 0 [(.int .i64 0)] [])⟩, ⟨(some 6), none, true, (.mv (.t 0))⟩, ⟨(some 7), none, false, (.app 1 8 [(.int .i64 0)] (.t 5) (.t 6))⟩, ⟨(some 2), none, false, (.mv (.t 7))⟩])
 .ret)))
theorem l74 : ∃ c, f74.body = some c ∧ liteC prog f74.ntmps c = some q74 := ⟨_, rfl, by kernel_rfl⟩
theorem e74 : prog.funcs[74]? = some f74 := by kernel_rfl
theorem r74 : mapO (resOf prog) f74.results.toList = some [(.t 2)] := by kernel_rfl
theorem n74 : f74.ntmps = 8 := rfl
def T74 : TE := .fn q74 [(.t 2)] 8
theorem te74 : TEOK prog 74 T74 := te_fn e74 l74 rfl r74 n74

def q76 : RQ :=
 (.seq (.reg [⟨(some 1), none, false, (.box (.t 0))⟩])
 (.seq (.reg [⟨(some 3), none, false, (.fa 4 (.t 1))⟩, ⟨(some 4), none, false, (.ld true 8 (.t 3))⟩, ⟨(some 2), none, false, (.alloc [.nils, .nils, .nils, (.int .i64 0), (.int .i64 0), (.int .i64 0), (.int .i64 0), (.int .i64 0)])⟩, ⟨none, none, false, (.st 8 (.t 2) (.t 4))⟩])
 (.seq (.reg [⟨(some 5), none, false, (.fa 0 (.t 2))⟩, ⟨(some 6), none, false, (.ld false 1 (.t 5))⟩, ⟨(some 7), none, false, (.len (.t 6))⟩, ⟨(some 8), none, true, (.bslice 1 1 [(.int .i64 0)] [(0, (.t 7))])⟩, ⟨(some 9), none, true, (.cal 50 [(.c (.int .i64 1)), (.c (.int .i64 3)), (.t 8)])⟩, ⟨(some 10), none, false, (.cal 82 [(.t 9), (.c (.int .i64 70))])⟩])
 (.seq (.reg [⟨(some 11), none, false, (.fa 1 (.t 2))⟩, ⟨(some 12), none, false, (.ld false 1 (.t 11))⟩, ⟨(some 13), none, false, (.len (.t 12))⟩, ⟨(some 14), none, false, (.fa 2 (.t 2))⟩, ⟨(some 15), none, false, (.ld false 1 (.t 14))⟩, ⟨(some 16), none, false, (.len (.t 15))⟩, ⟨(some 17), none, true, (.bslice 1 2 [(.int .i64 0)] [(0, (.t 13)), (1, (.t 16))])⟩, ⟨(some 18), none, true, (.cal 50 [(.c (.int .i64 1)), (.c (.int .i64 3)), (.t 17)])⟩, ⟨(some 19), none, false, (.cal 82 [(.t 18), (.c (.int .i64 70))])⟩])
 (.seq (.reg [⟨(some 20), none, false, (.fa 3 (.t 2))⟩, ⟨(some 21), none, false, (.ld false 1 (.t 20))⟩, ⟨(some 22), none, false, (.fa 4 (.t 2))⟩, ⟨(some 23), none, false, (.ld false 1 (.t 22))⟩, ⟨(some 24), none, true, (.bslice 1 2 [(.int .i64 0)] [(0, (.t 21)), (1, (.t 23))])⟩, ⟨(some 25), none, true, (.cal 50 [(.c (.int .i64 1)), (.c (.int .i64 8)), (.t 24)])⟩, ⟨(some 26), none, false, (.cal 82 [(.t 25), (.c (.int .i64 70))])⟩])
 (.seq (.reg [⟨(some 27), none, false, (.fa 5 (.t 2))⟩, ⟨(some 28), none, false, (.ld false 1 (.t 27))⟩, ⟨(some 29), none, true, (.bslice 1 1 [(.int .i64 0)] [(0, (.t 28))])⟩, ⟨(some 30), none, true, (.cal 50 [(.c (.int .i64 1)), (.c (.int .i64 8)), (.t 29)])⟩, ⟨(some 31), none, false, (.cal 82 [(.t 30), (.c (.int .i64 70))])⟩])
 (.seq (.reg [⟨(some 32), none, false, (.fa 6 (.t 2))⟩, ⟨(some 33), none, false, (.ld false 1 (.t 32))⟩, ⟨(some 34), none, true, (.bslice 1 1 [(.int .i64 0)] [(0, (.t 33))])⟩, ⟨(some 35), none, true, (.cal 50 [(.c (.int .i64 1)), (.c (.int .i64 16)), (.t 34)])⟩, ⟨(some 36), none, false, (.cal 82 [(.t 35), (.c (.int .i64 70))])⟩])
 (.reg [⟨(some 37), none, false, (.fa 7 (.t 2))⟩, ⟨(some 38), none, false, (.ld false 1 (.t 37))⟩, ⟨(some 39), none, true, (.bslice 1 1 [(.int .i64 0)] [(0, (.t 38))])⟩, ⟨(some 40), none, true, (.cal 50 [(.c (.int .i64 1)), (.c (.int .i64 64)), (.t 39)])⟩, ⟨(some 41), none, false, (.cal 82 [(.t 40), (.c (.int .i64 70))])⟩]))))))))
theorem l76 : ∃ c, f76.body = some c ∧ liteC prog f76.ntmps c = some q76 := ⟨_, rfl, by kernel_rfl⟩
theorem e76 : prog.funcs[76]? = some f76 := by kernel_rfl
theorem r76 : mapO (resOf prog) f76.results.toList = some [] := by kernel_rfl
theorem n76 : f76.ntmps = 42 := rfl
def T76 : TE := .fn q76 [] 42
theorem te76 : TEOK prog 76 T76 := te_fn e76 l76 rfl r76 n76

def q77 : RQ :=
 (.seq (.reg [⟨(some 1), none, false, (.box (.t 0))⟩])
 (.seq (.reg [⟨(some 4), none, false, (.fa 0 (.t 1))⟩, ⟨(some 5), none, false, (.fa 0 (.t 4))⟩, ⟨(some 6), none, false, (.ld false 1 (.t 5))⟩, ⟨(some 7), none, false, (.len (.t 6))⟩, ⟨(some 8), none, true, (.bin .leq (.t 7) (.c (.int .i64 64)))⟩, ⟨(some 9), none, false, (.cal 82 [(.t 8), (.c (.int .i64 8))])⟩])
 (.seq (.reg [⟨(some 10), none, false, (.fa 0 (.t 1))⟩, ⟨(some 11), none, false, (.fa 0 (.t 10))⟩, ⟨(some 12), none, false, (.ld false 1 (.t 11))⟩, ⟨(some 13), none, false, (.len (.t 12))⟩, ⟨(some 14), none, false, (.mv (.c (.int .i64 0)))⟩])
 (.block 0 (.loop (.seq (.reg [⟨(some 15), none, false, (.bin .lss (.t 14) (.t 13))⟩])
 (.seq (.cond (.t 15)
 .skip
 (.exit 0))
 (.seq (.block 1 (.seq (.reg [⟨(some 16), none, false, (.mv (.t 14))⟩, ⟨(some 17), none, false, (.ias 6 (.t 12) (.t 14))⟩, ⟨(some 18), none, false, (.ld true 6 (.t 17))⟩, ⟨(some 3), none, false, (.alloc [(.int .i64 0), (.int .i64 0), (.int .i64 0), (.int .u8 0), (.int .u64 0), (.int .u64 0)])⟩, ⟨(some 2), none, false, (.mv (.t 16))⟩, ⟨none, none, false, (.st 6 (.t 3) (.t 18))⟩])
 (.reg [⟨(some 19), none, false, (.fa 0 (.t 3))⟩, ⟨(some 20), none, false, (.ld false 1 (.t 19))⟩, ⟨(some 21), none, false, (.mv (.t 2))⟩, ⟨(some 22), none, false, (.bin .add (.t 21) (.c (.int .i64 1)))⟩, ⟨(some 23), none, false, (.bin .eql (.t 20) (.t 22))⟩, ⟨(some 24), none, false, (.mv (.t 23))⟩, ⟨(some 25), (some (24, true)), true, (.ld true 6 (.t 3))⟩, ⟨(some 26), (some (24, true)), false, (.cal 31 [(.t 25)])⟩, ⟨(some 27), (some (24, true)), false, (.bin .eql (.t 26) (.c (.int .i64 0)))⟩, ⟨(some 28), none, false, (.pick (.t 24) (.t 27) (.c (.bool false)))⟩, ⟨(some 29), none, false, (.mv (.t 28))⟩, ⟨(some 30), (some (29, true)), true, (.ld true 12 (.t 1))⟩, ⟨(some 31), (some (29, true)), false, (.fa 1 (.t 3))⟩, ⟨(some 32), (some (29, true)), true, (.ld false 1 (.t 31))⟩, ⟨(some 33), (some (29, true)), false, (.fa 2 (.t 3))⟩, ⟨(some 34), (some (29, true)), true, (.ld false 1 (.t 33))⟩, ⟨(some 35), (some (29, true)), false, (.cal 54 [(.t 30), (.t 32), (.t 34)])⟩, ⟨(some 36), none, true, (.pick (.t 29) (.t 35) (.c (.bool false)))⟩, ⟨(some 37), none, false, (.cal 82 [(.t 36), (.c (.int .i64 8))])⟩])))
 (.reg [⟨(some 38), none, false, (.bin .add (.t 14) (.c (.int .i64 1)))⟩, ⟨(some 14), none, false, (.mv (.t 38))⟩])))))))))
theorem l77 : ∃ c, f77.body = some c ∧ liteC prog f77.ntmps c = some q77 := ⟨_, rfl, by kernel_rfl⟩
theorem e77 : prog.funcs[77]? = some f77 := by kernel_rfl
theorem r77 : mapO (resOf prog) f77.results.toList = some [] := by kernel_rfl
theorem n77 : f77.ntmps = 39 := rfl
def T77 : TE := .fn q77 [] 39
theorem te77 : TEOK prog 77 T77 := te_fn e77 l77 rfl r77 n77

def q78 : RQ :=
 (.seq (.reg [⟨(some 1), none, false, (.box (.t 0))⟩])
 (.drw [(false, ⟨(some 2), none, false, (.fa 0 (.t 1))⟩), (false, ⟨(some 3), none, false, (.fa 1 (.t 2))⟩), (false, ⟨(some 4), none, false, (.ld false 1 (.t 3))⟩), (false, ⟨(some 5), none, false, (.len (.t 4))⟩), (false, ⟨(some 6), none, false, (.fa 4 (.t 1))⟩), (false, ⟨(some 7), none, false, (.fa 5 (.t 6))⟩), (false, ⟨(some 8), none, false, (.ld false 1 (.t 7))⟩), (false, ⟨(some 9), none, false, (.bin .leq (.t 5) (.t 8))⟩), (false, ⟨(some 10), none, false, (.mv (.t 9))⟩), (false, ⟨(some 11), (some (10, true)), false, (.fa 0 (.t 1))⟩), (false, ⟨(some 12), (some (10, true)), false, (.fa 1 (.t 11))⟩), (false, ⟨(some 13), (some (10, true)), true, (.ld false 1 (.t 12))⟩), (false, ⟨(some 14), (some (10, true)), true, (.ld true 12 (.t 1))⟩), (false, ⟨(some 15), (some (10, true)), true, (.cal 81 [(.t 14)])⟩), (false, ⟨(some 16), (some (10, true)), false, (.cal 83 [(.t 13), (.t 15)])⟩), (false, ⟨(some 17), none, true, (.pick (.t 10) (.t 16) (.c (.bool false)))⟩), (false, ⟨(some 18), none, false, (.cal 82 [(.t 17), (.c (.int .i64 8))])⟩)] []))
theorem l78 : ∃ c, f78.body = some c ∧ liteC prog f78.ntmps c = some q78 := ⟨_, rfl, by kernel_rfl⟩
theorem e78 : prog.funcs[78]? = some f78 := by kernel_rfl
theorem r78 : mapO (resOf prog) f78.results.toList = some [] := by kernel_rfl
theorem n78 : f78.ntmps = 19 := rfl
def T78 : TE := .fn q78 [] 19
theorem te78 : TEOK prog 78 T78 := te_fn e78 l78 rfl r78 n78

def q79 : RQ :=
 (.seq (.reg [⟨(some 1), none, false, (.box (.t 0))⟩])
 (.reg [⟨(some 2), none, false, (.fa 0 (.t 1))⟩, ⟨(some 3), none, false, (.fa 2 (.t 2))⟩, ⟨(some 4), none, true, (.ld true 2 (.t 3))⟩, ⟨(some 5), none, false, (.fa 4 (.t 1))⟩, ⟨(some 6), none, false, (.fa 7 (.t 5))⟩, ⟨(some 7), none, true, (.ld false 1 (.t 6))⟩, ⟨(some 8), none, false, (.fa 4 (.t 1))⟩, ⟨(some 9), none, false, (.fa 6 (.t 8))⟩, ⟨(some 10), none, true, (.ld false 1 (.t 9))⟩, ⟨(some 11), none, false, (.cal 21 [(.t 4), (.t 7), (.t 10)])⟩, ⟨(some 12), none, true, (.bin .eql (.t 11) (.c (.int .i64 0)))⟩, ⟨(some 13), none, false, (.cal 82 [(.t 12), (.c (.int .i64 8))])⟩]))
theorem l79 : ∃ c, f79.body = some c ∧ liteC prog f79.ntmps c = some q79 := ⟨_, rfl, by kernel_rfl⟩
theorem e79 : prog.funcs[79]? = some f79 := by kernel_rfl
theorem r79 : mapO (resOf prog) f79.results.toList = some [] := by kernel_rfl
theorem n79 : f79.ntmps = 14 := rfl
def T79 : TE := .fn q79 [] 14
theorem te79 : TEOK prog 79 T79 := te_fn e79 l79 rfl r79 n79

def q80 : RQ :=
 (.seq (.reg [⟨(some 5), none, false, (.box (.t 0))⟩, ⟨(some 6), none, false, (.box (.t 1))⟩, ⟨(some 10), none, false, (.alloc [.nils, .nils, (.int .u64 0), (.int .i64 0)])⟩, ⟨(some 11), none, false, (.mv (.c (.int .i64 0)))⟩])
 (.seq (.reg [⟨(some 15), none, true, (.ld true 8 (.t 5))⟩, ⟨(some 16), none, true, (.ld true 4 (.t 6))⟩, ⟨(some 17), none, true, (.mv (.t 2))⟩, ⟨(some 18), none, false, (.cal 66 [(.t 15), (.t 16), (.t 17)])⟩, ⟨(some 14), none, false, (.mv (.t 18))⟩, ⟨(some 19), none, false, (.ext (.t 14) 0)⟩, ⟨(some 20), none, false, (.ext (.t 14) 1)⟩, ⟨(some 12), none, false, (.alloc [(.int .i64 0), (.int .i64 0), (.int .i64 0), (.int .u8 0), (.int .u64 0), (.int .u64 0)])⟩, ⟨none, none, false, (.st 6 (.t 12) (.t 19))⟩, ⟨(some 13), none, false, (.mv (.t 20))⟩])
 (.seq (.seq (.reg [⟨(some 21), none, false, (.mv (.t 13))⟩, ⟨(some 22), none, false, (.bin .neq (.t 21) (.c (.int .i64 0)))⟩])
 (.cond (.t 22)
 (.seq (.reg [⟨(some 23), none, false, (.build [.nils, .nils, (.int .u64 0), (.int .i64 0)] [])⟩, ⟨(some 24), none, false, (.mv (.t 13))⟩, ⟨none, none, false, (.st 4 (.t 10) (.t 23))⟩, ⟨(some 11), none, false, (.mv (.t 24))⟩])
 .ret)
 .skip))
 (.seq (.reg [⟨(some 26), none, true, (.ld true 6 (.t 12))⟩, ⟨(some 27), none, true, (.mv (.t 3))⟩, ⟨(some 28), none, true, (.mv (.t 4))⟩, ⟨(some 29), none, false, (.cal 33 [(.t 26), (.t 27), (.t 28)])⟩, ⟨(some 25), none, false, (.mv (.t 29))⟩, ⟨(some 30), none, false, (.ext (.t 25) 0)⟩, ⟨(some 31), none, false, (.ext (.t 25) 1)⟩, ⟨none, none, false, (.st 6 (.t 12) (.t 30))⟩, ⟨(some 13), none, false, (.mv (.t 31))⟩])
 (.seq (.seq (.reg [⟨(some 32), none, false, (.mv (.t 13))⟩, ⟨(some 33), none, false, (.bin .neq (.t 32) (.c (.int .i64 0)))⟩])
 (.cond (.t 33)
 (.seq (.reg [⟨(some 34), none, false, (.build [.nils, .nils, (.int .u64 0), (.int .i64 0)] [])⟩, ⟨(some 35), none, false, (.mv (.t 13))⟩, ⟨none, none, false, (.st 4 (.t 10) (.t 34))⟩, ⟨(some 11), none, false, (.mv (.t 35))⟩])
 .ret)
 .skip))
 (.seq (.reg [⟨(some 36), none, true, (.ld true 4 (.t 6))⟩, ⟨(some 37), none, true, (.ld true 6 (.t 12))⟩, ⟨(some 38), none, false, (.cal 84 [(.t 36), (.t 37)])⟩, ⟨none, none, false, (.st 4 (.t 10) (.t 38))⟩, ⟨(some 11), none, false, (.mv (.c (.int .i64 0)))⟩])
 .ret))))))
theorem l80 : ∃ c, f80.body = some c ∧ liteC prog f80.ntmps c = some q80 := ⟨_, rfl, by kernel_rfl⟩
theorem e80 : prog.funcs[80]? = some f80 := by kernel_rfl
theorem r80 : mapO (resOf prog) f80.results.toList = some [(.c 10 true 4), (.t 11)] := by kernel_rfl
theorem n80 : f80.ntmps = 39 := rfl
def T80 : TE := .fn q80 [(.c 10 true 4), (.t 11)] 39
theorem te80 : TEOK prog 80 T80 := te_fn e80 l80 rfl r80 n80

def q81 : RQ :=
 (.seq (.reg [⟨(some 1), none, false, (.box (.t 0))⟩, ⟨(some 2), none, false, (.mv (.c .nils))⟩])
 (.seq (.reg [⟨(some 3), none, false, (.fa 0 (.t 1))⟩, ⟨(some 4), none, false, (.fa 0 (.t 3))⟩, ⟨(some 5), none, true, (.ld false 1 (.t 4))⟩, ⟨(some 6), none, false, (.cal 85 [(.t 5), (.f 86)])⟩, ⟨(some 2), none, false, (.mv (.t 6))⟩])
 .ret))
theorem l81 : ∃ c, f81.body = some c ∧ liteC prog f81.ntmps c = some q81 := ⟨_, rfl, by kernel_rfl⟩
theorem e81 : prog.funcs[81]? = some f81 := by kernel_rfl
theorem r81 : mapO (resOf prog) f81.results.toList = some [(.t 2)] := by kernel_rfl
theorem n81 : f81.ntmps = 7 := rfl
def T81 : TE := .fn q81 [(.t 2)] 7
theorem te81 : TEOK prog 81 T81 := te_fn e81 l81 rfl r81 n81

def q82 : RQ :=
 (.seq (.reg [⟨(some 4), none, false, (.mv (.t 0))⟩, ⟨(some 5), none, false, (.not (.t 4))⟩])
 (.cond (.t 5)
 (.reg [⟨(some 6), none, false, (.mv (.t 1))⟩, ⟨(some 7), none, false, (.mki 25 (.t 6))⟩, ⟨none, none, false, (.pan (.t 7))⟩])
 .skip))
theorem l82 : ∃ c, f82.body = some c ∧ liteC prog f82.ntmps c = some q82 := ⟨_, rfl, by kernel_rfl⟩
theorem e82 : prog.funcs[82]? = some f82 := by kernel_rfl
theorem r82 : mapO (resOf prog) f82.results.toList = some [] := by kernel_rfl
theorem n82 : f82.ntmps = 8 := rfl
def T82 : TE := .fn q82 [] 8
theorem te82 : TEOK prog 82 T82 := te_fn e82 l82 rfl r82 n82

def q83 : RQ :=
 (.seq (.reg [⟨(some 4), none, false, (.mv (.c (.bool false)))⟩])
 (.seq (.seq (.reg [⟨(some 6), none, false, (.mv (.t 0))⟩, ⟨(some 7), none, false, (.len (.t 6))⟩, ⟨(some 8), none, false, (.mv (.t 1))⟩, ⟨(some 9), none, false, (.len (.t 8))⟩, ⟨(some 10), none, false, (.bin .neq (.t 7) (.t 9))⟩])
 (.cond (.t 10)
 (.seq (.reg [⟨(some 4), none, false, (.mv (.c (.bool false)))⟩])
 .ret)
 .skip))
 (.seq (.seq (.reg [⟨(some 11), none, false, (.mv (.t 0))⟩, ⟨(some 12), none, false, (.len (.t 11))⟩, ⟨(some 13), none, false, (.mv (.c (.int .i64 0)))⟩])
 (.block 0 (.loop (.seq (.reg [⟨(some 14), none, false, (.bin .lss (.t 13) (.t 12))⟩])
 (.seq (.cond (.t 14)
 .skip
 (.exit 0))
 (.seq (.block 1 (.seq (.reg [⟨(some 15), none, false, (.mv (.t 13))⟩, ⟨(some 5), none, false, (.mv (.t 15))⟩])
 (.seq (.drw [(false, ⟨(some 16), none, false, (.mv (.t 0))⟩), (false, ⟨(some 17), none, false, (.mv (.t 5))⟩), (false, ⟨(some 18), none, false, (.ias 1 (.t 16) (.t 17))⟩), (false, ⟨(some 19), none, false, (.ld false 1 (.t 18))⟩), (false, ⟨(some 20), none, false, (.mv (.t 1))⟩), (false, ⟨(some 21), none, false, (.mv (.t 5))⟩), (false, ⟨(some 22), none, false, (.ias 1 (.t 20) (.t 21))⟩), (false, ⟨(some 23), none, false, (.ld false 1 (.t 22))⟩), (false, ⟨(some 24), none, false, (.bin .neq (.t 19) (.t 23))⟩)] [])
 (.cond (.t 24)
 (.seq (.reg [⟨(some 4), none, false, (.mv (.c (.bool false)))⟩])
 .ret)
 .skip))))
 (.reg [⟨(some 25), none, false, (.bin .add (.t 13) (.c (.int .i64 1)))⟩, ⟨(some 13), none, false, (.mv (.t 25))⟩])))))))
 (.seq (.reg [⟨(some 4), none, false, (.mv (.c (.bool true)))⟩])
 .ret))))
theorem l83 : ∃ c, f83.body = some c ∧ liteC prog f83.ntmps c = some q83 := ⟨_, rfl, by kernel_rfl⟩
theorem e83 : prog.funcs[83]? = some f83 := by kernel_rfl
theorem r83 : mapO (resOf prog) f83.results.toList = some [(.t 4)] := by kernel_rfl
theorem n83 : f83.ntmps = 26 := rfl
def T83 : TE := .fn q83 [(.t 4)] 26
theorem te83 : TEOK prog 83 T83 := te_fn e83 l83 rfl r83 n83

def q84 : RQ :=
 (.seq (.reg [⟨(some 2), none, false, (.box (.t 0))⟩, ⟨(some 3), none, false, (.box (.t 1))⟩, ⟨(some 4), none, false, (.alloc [.nils, .nils, (.int .u64 0), (.int .i64 0)])⟩])
 (.seq (.reg [⟨(some 5), none, true, (.ld true 4 (.t 2))⟩, ⟨(some 6), none, false, (.cal 37 [(.t 5)])⟩, ⟨none, none, false, (.st 4 (.t 2) (.t 6))⟩])
 (.seq (.reg [⟨(some 7), none, false, (.fa 0 (.t 2))⟩, ⟨(some 8), none, false, (.ld false 1 (.t 7))⟩, ⟨(some 9), none, false, (.fa 0 (.t 3))⟩, ⟨(some 10), none, false, (.ld false 1 (.t 9))⟩, ⟨(some 11), none, false, (.bin .sub (.t 10) (.c (.int .i64 1)))⟩, ⟨(some 12), none, false, (.ld true 6 (.t 3))⟩, ⟨(some 13), none, false, (.ias 6 (.t 8) (.t 11))⟩, ⟨none, none, false, (.st 6 (.t 13) (.t 12))⟩])
 (.seq (.reg [⟨(some 14), none, false, (.fa 0 (.t 2))⟩, ⟨(some 15), none, true, (.ld false 1 (.t 14))⟩, ⟨(some 16), none, false, (.cal 70 [(.t 15)])⟩, ⟨(some 17), none, false, (.fa 1 (.t 2))⟩, ⟨none, none, false, (.st 1 (.t 17) (.t 16))⟩])
 (.seq (.reg [⟨(some 18), none, false, (.ld true 4 (.t 2))⟩, ⟨none, none, false, (.st 4 (.t 4) (.t 18))⟩])
 .ret)))))
theorem l84 : ∃ c, f84.body = some c ∧ liteC prog f84.ntmps c = some q84 := ⟨_, rfl, by kernel_rfl⟩
theorem e84 : prog.funcs[84]? = some f84 := by kernel_rfl
theorem r84 : mapO (resOf prog) f84.results.toList = some [(.c 4 true 4)] := by kernel_rfl
theorem n84 : f84.ntmps = 19 := rfl
def T84 : TE := .fn q84 [(.c 4 true 4)] 19
theorem te84 : TEOK prog 84 T84 := te_fn e84 l84 rfl r84 n84

def q85 : RQ :=
 (.seq (.reg [⟨(some 4), none, false, (.mv (.c .nils))⟩])
 (.seq (.reg [⟨(some 5), none, false, (.mv (.c .nils))⟩])
 (.seq (.seq (.reg [⟨(some 8), none, false, (.mv (.t 0))⟩, ⟨(some 9), none, false, (.len (.t 8))⟩, ⟨(some 10), none, false, (.mv (.c (.int .i64 0)))⟩])
 (.block 0 (.loop (.seq (.reg [⟨(some 11), none, false, (.bin .lss (.t 10) (.t 9))⟩])
 (.seq (.cond (.t 11)
 .skip
 (.exit 0))
 (.seq (.block 1 (.seq (.reg [⟨(some 12), none, false, (.mv (.t 10))⟩, ⟨(some 13), none, false, (.ias 6 (.t 8) (.t 10))⟩, ⟨(some 14), none, false, (.ld true 6 (.t 13))⟩, ⟨(some 7), none, false, (.alloc [(.int .i64 0), (.int .i64 0), (.int .i64 0), (.int .u8 0), (.int .u64 0), (.int .u64 0)])⟩, ⟨(some 6), none, false, (.mv (.t 12))⟩, ⟨none, none, false, (.st 6 (.t 7) (.t 14))⟩])
 (.seq (.reg [⟨(some 15), none, false, (.mv (.t 1))⟩, ⟨(some 16), none, true, (.ld true 6 (.t 7))⟩, ⟨(some 17), none, false, (.cav (.t 15) [(.t 16)])⟩])
 (.cond (.t 17)
 (.reg [⟨(some 18), none, false, (.mv (.t 5))⟩, ⟨(some 19), none, false, (.mv (.t 6))⟩, ⟨(some 20), none, false, (.bin .add (.t 19) (.c (.int .i64 1)))⟩, ⟨(some 21), none, true, (.bslice 1 1 [(.int .i64 0)] [(0, (.t 20))])⟩, ⟨(some 22), none, false, (.app 1 8 [(.int .i64 0)] (.t 18) (.t 21))⟩, ⟨(some 5), none, false, (.mv (.t 22))⟩])
 .skip))))
 (.reg [⟨(some 23), none, false, (.bin .add (.t 10) (.c (.int .i64 1)))⟩, ⟨(some 10), none, false, (.mv (.t 23))⟩])))))))
 (.seq (.reg [⟨(some 24), none, false, (.mv (.t 5))⟩, ⟨(some 4), none, false, (.mv (.t 24))⟩])
 .ret))))
theorem l85 : ∃ c, f85.body = some c ∧ liteC prog f85.ntmps c = some q85 := ⟨_, rfl, by kernel_rfl⟩
theorem e85 : prog.funcs[85]? = some f85 := by kernel_rfl
theorem r85 : mapO (resOf prog) f85.results.toList = some [(.t 4)] := by kernel_rfl
theorem n85 : f85.ntmps = 25 := rfl
def T85 : TE := .fn q85 [(.t 4)] 25
theorem te85 : TEOK prog 85 T85 := te_fn e85 l85 rfl r85 n85

def q86 : RQ :=
 (.seq (.reg [⟨(some 1), none, false, (.box (.t 0))⟩, ⟨(some 2), none, false, (.mv (.c (.bool false)))⟩])
 (.seq (.reg [⟨(some 3), none, false, (.fa 3 (.t 1))⟩, ⟨(some 4), none, false, (.ld false 1 (.t 3))⟩, ⟨(some 5), none, false, (.bin .eql (.t 4) (.c (.int .u8 1)))⟩, ⟨(some 2), none, false, (.mv (.t 5))⟩])
 .ret))
theorem l86 : ∃ c, f86.body = some c ∧ liteC prog f86.ntmps c = some q86 := ⟨_, rfl, by kernel_rfl⟩
theorem e86 : prog.funcs[86]? = some f86 := by kernel_rfl
theorem r86 : mapO (resOf prog) f86.results.toList = some [(.t 2)] := by kernel_rfl
theorem n86 : f86.ntmps = 6 := rfl
def T86 : TE := .fn q86 [(.t 2)] 6
theorem te86 : TEOK prog 86 T86 := te_fn e86 l86 rfl r86 n86

def q55A : List RP := [⟨(some 1), none, false, (.box (.t 0))⟩, ⟨(some 2), none, false, (.alloc [(.int .i64 0)])⟩]
def q55B : RQ :=
 (.seq (.reg [⟨(some 4), none, true, (.ld true 12 (.t 1))⟩, ⟨(some 5), none, false, (.cal 76 [(.t 4)])⟩])
 (.seq (.reg [⟨(some 6), none, true, (.ld true 12 (.t 1))⟩, ⟨(some 7), none, false, (.cal 77 [(.t 6)])⟩])
 (.seq (.reg [⟨(some 8), none, true, (.ld true 12 (.t 1))⟩, ⟨(some 9), none, false, (.cal 78 [(.t 8)])⟩])
 (.seq (.reg [⟨(some 10), none, true, (.ld true 12 (.t 1))⟩, ⟨(some 11), none, false, (.cal 79 [(.t 10)])⟩])
 (.seq (.reg [⟨none, none, false, (.st 1 (.t 2) (.c (.int .i64 0)))⟩])
 .ret)))))
def q55G : RQ :=
 (.seq (.reg [⟨(some 3), none, false, (.mv (.t 1))⟩, ⟨(some 4), none, false, (.eqi true (.t 3))⟩])
 (.cond (.t 4)
 (.reg [⟨(some 5), none, false, (.mv (.t 1))⟩, ⟨(some 6), none, false, (.tas 25 (.t 5))⟩, ⟨none, none, false, (.st 1 (.t 0) (.t 6))⟩])
 .skip))

theorem df55 : DForm prog 55 q55A q55B q55G [(.c 2 false 1)] 75 [(.t 2)] 3 2 1 f55 f75 (dI0 f55.body) (dI1 f55.body) (dI0 f75.body) (dA f55.body) (dM f55.body) (dD f55.body) ((dA f75.body).getD 0 default) ((dA f75.body).getD 1 default)
    (dB f55.body) (dT f75.body) (mkArgs (dM f55.body).op) (callTys (dD f55.body).op) (callTys ((dA f75.body).getD 0 default).op) where
  hf := by kernel_rfl
  hb := by kernel_rfl
  hname := by rfl
  h0 := by kernel_rfl
  hB := by kernel_rfl
  hres := by kernel_rfl
  hom := by kernel_rfl
  hmg := by kernel_rfl
  hmd := by kernel_rfl
  htd := by decide
  hcaps := by kernel_rfl
  hod := by kernel_rfl
  hdg := by kernel_rfl
  hdd := by kernel_rfl
  hg := by kernel_rfl
  hgb := by kernel_rfl
  hgn := by rfl
  hG := by kernel_rfl
  hgr := by kernel_rfl
  hrc := by kernel_rfl
  hrg := by kernel_rfl
  hrd := by kernel_rfl
  ht1 := by decide
  has := by kernel_rfl
  hag := by kernel_rfl
  had := by kernel_rfl
  ht2 := by decide
  hcl := by decide
def T55 : TE := .df q55A q55B q55G [(.c 2 false 1)] 75 [(.t 2)] 3 2 1 12
theorem te55 : TEOK prog 55 T55 := ⟨_, _, _, _, _, _, _, _, _, _, _, _, _, _, _, df55, rfl⟩

def tabL : List (Nat × TE) := [(3, T3), (4, T4), (5, T5), (6, T6), (7, T7), (8, T8), (9, T9), (10, T10), (11, T11), (12, T12), (13, T13), (14, T14), (15, T15), (16, T16), (17, T17), (18, T18), (19, T19), (20, T20), (21, T21), (22, T22), (23, T23), (24, T24), (25, T25), (26, T26), (27, T27), (28, T28), (29, T29), (30, T30), (31, T31), (32, T32), (33, T33), (34, T34), (35, T35), (36, T36), (37, T37), (38, T38), (39, T39), (40, T40), (41, T41), (42, T42), (43, T43), (44, T44), (45, T45), (46, T46), (47, T47), (48, T48), (49, T49), (50, T50), (51, T51), (52, T52), (53, T53), (54, T54), (56, T56), (57, T57), (58, T58), (59, T59), (60, T60), (61, T61), (62, T62), (63, T63), (64, T64), (65, T65), (66, T66), (67, T67), (68, T68), (69, T69), (70, T70), (71, T71), (72, T72), (73, T73), (74, T74), (76, T76), (77, T77), (78, T78), (79, T79), (80, T80), (81, T81), (82, T82), (83, T83), (84, T84), (85, T85), (86, T86), (55, T55)]
theorem tabOK : TabOK prog (lkT tabL) := tabOK_of (List.forall_mem_cons.2 ⟨te3, List.forall_mem_cons.2 ⟨te4, List.forall_mem_cons.2 ⟨te5, List.forall_mem_cons.2 ⟨te6, List.forall_mem_cons.2 ⟨te7, List.forall_mem_cons.2 ⟨te8, List.forall_mem_cons.2 ⟨te9, List.forall_mem_cons.2 ⟨te10, List.forall_mem_cons.2 ⟨te11, List.forall_mem_cons.2 ⟨te12, List.forall_mem_cons.2 ⟨te13, List.forall_mem_cons.2 ⟨te14, List.forall_mem_cons.2 ⟨te15, List.forall_mem_cons.2 ⟨te16, List.forall_mem_cons.2 ⟨te17, List.forall_mem_cons.2 ⟨te18, List.forall_mem_cons.2 ⟨te19, List.forall_mem_cons.2 ⟨te20, List.forall_mem_cons.2 ⟨te21, List.forall_mem_cons.2 ⟨te22, List.forall_mem_cons.2 ⟨te23, List.forall_mem_cons.2 ⟨te24, List.forall_mem_cons.2 ⟨te25, List.forall_mem_cons.2 ⟨te26, List.forall_mem_cons.2 ⟨te27, List.forall_mem_cons.2 ⟨te28, List.forall_mem_cons.2 ⟨te29, List.forall_mem_cons.2 ⟨te30, List.forall_mem_cons.2 ⟨te31, List.forall_mem_cons.2 ⟨te32, List.forall_mem_cons.2 ⟨te33, List.forall_mem_cons.2 ⟨te34, List.forall_mem_cons.2 ⟨te35, List.forall_mem_cons.2 ⟨te36, List.forall_mem_cons.2 ⟨te37, List.forall_mem_cons.2 ⟨te38, List.forall_mem_cons.2 ⟨te39, List.forall_mem_cons.2 ⟨te40, List.forall_mem_cons.2 ⟨te41, List.forall_mem_cons.2 ⟨te42, List.forall_mem_cons.2 ⟨te43, List.forall_mem_cons.2 ⟨te44, List.forall_mem_cons.2 ⟨te45, List.forall_mem_cons.2 ⟨te46, List.forall_mem_cons.2 ⟨te47, List.forall_mem_cons.2 ⟨te48, List.forall_mem_cons.2 ⟨te49, List.forall_mem_cons.2 ⟨te50, List.forall_mem_cons.2 ⟨te51, List.forall_mem_cons.2 ⟨te52, List.forall_mem_cons.2 ⟨te53, List.forall_mem_cons.2 ⟨te54, List.forall_mem_cons.2 ⟨te56, List.forall_mem_cons.2 ⟨te57, List.forall_mem_cons.2 ⟨te58, List.forall_mem_cons.2 ⟨te59, List.forall_mem_cons.2 ⟨te60, List.forall_mem_cons.2 ⟨te61, List.forall_mem_cons.2 ⟨te62, List.forall_mem_cons.2 ⟨te63, List.forall_mem_cons.2 ⟨te64, List.forall_mem_cons.2 ⟨te65, List.forall_mem_cons.2 ⟨te66, List.forall_mem_cons.2 ⟨te67, List.forall_mem_cons.2 ⟨te68, List.forall_mem_cons.2 ⟨te69, List.forall_mem_cons.2 ⟨te70, List.forall_mem_cons.2 ⟨te71, List.forall_mem_cons.2 ⟨te72, List.forall_mem_cons.2 ⟨te73, List.forall_mem_cons.2 ⟨te74, List.forall_mem_cons.2 ⟨te76, List.forall_mem_cons.2 ⟨te77, List.forall_mem_cons.2 ⟨te78, List.forall_mem_cons.2 ⟨te79, List.forall_mem_cons.2 ⟨te80, List.forall_mem_cons.2 ⟨te81, List.forall_mem_cons.2 ⟨te82, List.forall_mem_cons.2 ⟨te83, List.forall_mem_cons.2 ⟨te84, List.forall_mem_cons.2 ⟨te85, List.forall_mem_cons.2 ⟨te86, List.forall_mem_cons.2 ⟨te55, (by intro x hx; cases hx)⟩⟩⟩⟩⟩⟩⟩⟩⟩⟩⟩⟩⟩⟩⟩⟩⟩⟩⟩⟩⟩⟩⟩⟩⟩⟩⟩⟩⟩⟩⟩⟩⟩⟩⟩⟩⟩⟩⟩⟩⟩⟩⟩⟩⟩⟩⟩⟩⟩⟩⟩⟩⟩⟩⟩⟩⟩⟩⟩⟩⟩⟩⟩⟩⟩⟩⟩⟩⟩⟩⟩⟩⟩⟩⟩⟩⟩⟩⟩⟩⟩⟩⟩)
theorem mixed : prog.follows .mixedOrders = true := by kernel_rfl
end Go.Proofs.Ytihkijccnimgbaa