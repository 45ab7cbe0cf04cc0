/-
  The drawn region 6 of the law FormForms: each operation's value.
-/
import Derived.Test.YteikdocpncdheaaFgen
namespace Go.Proofs.Yteikdocpncdheaa
open Go.ChangeShapes Go.WideShapes Go.ChangeAt Go.RowKit
attribute [local go_sem ↓] Go.wp_at_zero Go.wp_at_succ

def o6_0 : Oper := { dst := some 67, op := Op.load 45 (Operand.tmp 3), type := 45, pos := "law.go:102", after := #[], guard := none }
def o6_1 : Oper := { dst := some 68, op := Op.buildSlice 22 1 #[(0, Operand.tmp 67)], type := 22, pos := "law.go:102", after := #[{ on := 0, ground := Ground.data }], guard := none }
def o6_2 : Oper := { dst := some 69, op := Op.load 45 (Operand.tmp 1), type := 45, pos := "law.go:102", after := #[], guard := none }
def o6_3 : Oper := { dst := some 70, op := Op.load 45 (Operand.tmp 1), type := 45, pos := "law.go:102", after := #[], guard := none }
def o6_4 : Oper := { dst := some 71, op := Op.buildSlice 22 2 #[(0, Operand.tmp 69), (1, Operand.tmp 70)], type := 22, pos := "law.go:102", after := #[{ on := 2, ground := Ground.data }, { on := 3, ground := Ground.data }], guard := none }
def o6_5 : Oper := { dst := some 72, op := Op.load 45 (Operand.tmp 1), type := 45, pos := "law.go:102", after := #[], guard := none }
def o6_6 : Oper := { dst := some 73, op := Op.load 45 (Operand.tmp 3), type := 45, pos := "law.go:102", after := #[], guard := none }
def o6_7 : Oper := { dst := some 74, op := Op.buildSlice 22 2 #[(0, Operand.tmp 72), (1, Operand.tmp 73)], type := 22, pos := "law.go:102", after := #[{ on := 5, ground := Ground.data }, { on := 6, ground := Ground.data }], guard := none }
def o6_8 : Oper := { dst := some 75, op := Op.call { callee := Callee.value (Operand.func 19), args := #[Operand.const (Value.int IntKind.i64 1), Operand.const (Value.int IntKind.i64 2)], argTypes := #[3, 3] }, type := 45, pos := "law.go:102", after := #[], guard := none }
def o6_9 : Oper := { dst := some 76, op := Op.load 45 (Operand.tmp 1), type := 45, pos := "law.go:102", after := #[], guard := none }
def o6_10 : Oper := { dst := some 77, op := Op.buildSlice 22 2 #[(0, Operand.tmp 75), (1, Operand.tmp 76)], type := 22, pos := "law.go:102", after := #[{ on := 8, ground := Ground.data }, { on := 9, ground := Ground.data }], guard := none }
def o6_11 : Oper := { dst := some 78, op := Op.call { callee := Callee.value (Operand.func 20), args := #[Operand.const (Value.int IntKind.i64 1)], argTypes := #[3] }, type := 45, pos := "law.go:102", after := #[{ on := 8, ground := Ground.chain }], guard := none }
def o6_12 : Oper := { dst := some 79, op := Op.load 45 (Operand.tmp 1), type := 45, pos := "law.go:102", after := #[], guard := none }
def o6_13 : Oper := { dst := some 80, op := Op.buildSlice 22 2 #[(0, Operand.tmp 78), (1, Operand.tmp 79)], type := 22, pos := "law.go:102", after := #[{ on := 11, ground := Ground.data }, { on := 12, ground := Ground.data }], guard := none }
def o6_14 : Oper := { dst := some 81, op := Op.load 45 (Operand.tmp 4), type := 45, pos := "law.go:102", after := #[], guard := none }
def o6_15 : Oper := { dst := some 82, op := Op.load 45 (Operand.tmp 1), type := 45, pos := "law.go:102", after := #[], guard := none }
def o6_16 : Oper := { dst := some 83, op := Op.buildSlice 22 2 #[(0, Operand.tmp 81), (1, Operand.tmp 82)], type := 22, pos := "law.go:102", after := #[{ on := 14, ground := Ground.data }, { on := 15, ground := Ground.data }], guard := none }
def o6_17 : Oper := { dst := some 84, op := Op.load 45 (Operand.tmp 5), type := 45, pos := "law.go:102", after := #[], guard := none }
def o6_18 : Oper := { dst := some 85, op := Op.load 45 (Operand.tmp 1), type := 45, pos := "law.go:102", after := #[], guard := none }
def o6_19 : Oper := { dst := some 86, op := Op.buildSlice 22 2 #[(0, Operand.tmp 84), (1, Operand.tmp 85)], type := 22, pos := "law.go:102", after := #[{ on := 17, ground := Ground.data }, { on := 18, ground := Ground.data }], guard := none }
def o6_20 : Oper := { dst := some 87, op := Op.load 45 (Operand.tmp 4), type := 45, pos := "law.go:102", after := #[], guard := none }
def o6_21 : Oper := { dst := some 88, op := Op.load 45 (Operand.tmp 6), type := 45, pos := "law.go:102", after := #[], guard := none }
def o6_22 : Oper := { dst := some 89, op := Op.load 45 (Operand.tmp 5), type := 45, pos := "law.go:102", after := #[], guard := none }
def o6_23 : Oper := { dst := some 90, op := Op.load 45 (Operand.tmp 7), type := 45, pos := "law.go:102", after := #[], guard := none }
def o6_24 : Oper := { dst := some 91, op := Op.load 45 (Operand.tmp 1), type := 45, pos := "law.go:102", after := #[], guard := none }
def o6_25 : Oper := { dst := some 92, op := Op.buildSlice 22 5 #[(0, Operand.tmp 87), (1, Operand.tmp 88), (2, Operand.tmp 89), (3, Operand.tmp 90), (4, Operand.tmp 91)], type := 22, pos := "law.go:102", after := #[{ on := 20, ground := Ground.data }, { on := 21, ground := Ground.data }, { on := 22, ground := Ground.data }, { on := 23, ground := Ground.data }, { on := 24, ground := Ground.data }], guard := none }
def o6_26 : Oper := { dst := some 93, op := Op.load 45 (Operand.tmp 4), type := 45, pos := "law.go:102", after := #[], guard := none }
def o6_27 : Oper := { dst := some 94, op := Op.load 45 (Operand.tmp 4), type := 45, pos := "law.go:102", after := #[], guard := none }
def o6_28 : Oper := { dst := some 95, op := Op.load 45 (Operand.tmp 5), type := 45, pos := "law.go:102", after := #[], guard := none }
def o6_29 : Oper := { dst := some 96, op := Op.load 45 (Operand.tmp 5), type := 45, pos := "law.go:102", after := #[], guard := none }
def o6_30 : Oper := { dst := some 97, op := Op.load 45 (Operand.tmp 1), type := 45, pos := "law.go:102", after := #[], guard := none }
def o6_31 : Oper := { dst := some 98, op := Op.buildSlice 22 5 #[(0, Operand.tmp 93), (1, Operand.tmp 94), (2, Operand.tmp 95), (3, Operand.tmp 96), (4, Operand.tmp 97)], type := 22, pos := "law.go:102", after := #[{ on := 26, ground := Ground.data }, { on := 27, ground := Ground.data }, { on := 28, ground := Ground.data }, { on := 29, ground := Ground.data }, { on := 30, ground := Ground.data }], guard := none }
def o6_32 : Oper := { dst := some 99, op := Op.load 45 (Operand.tmp 4), type := 45, pos := "law.go:102", after := #[], guard := none }
def o6_33 : Oper := { dst := some 100, op := Op.load 45 (Operand.tmp 2), type := 45, pos := "law.go:102", after := #[], guard := none }
def o6_34 : Oper := { dst := some 101, op := Op.load 45 (Operand.tmp 5), type := 45, pos := "law.go:102", after := #[], guard := none }
def o6_35 : Oper := { dst := some 102, op := Op.load 45 (Operand.tmp 1), type := 45, pos := "law.go:102", after := #[], guard := none }
def o6_36 : Oper := { dst := some 103, op := Op.buildSlice 22 4 #[(0, Operand.tmp 99), (1, Operand.tmp 100), (2, Operand.tmp 101), (3, Operand.tmp 102)], type := 22, pos := "law.go:102", after := #[{ on := 32, ground := Ground.data }, { on := 33, ground := Ground.data }, { on := 34, ground := Ground.data }, { on := 35, ground := Ground.data }], guard := none }
def o6_37 : Oper := { dst := some 104, op := Op.call { callee := Callee.value (Operand.func 19), args := #[Operand.const (Value.int IntKind.i64 1), Operand.const (Value.int IntKind.i64 2)], argTypes := #[3, 3] }, type := 45, pos := "law.go:102", after := #[{ on := 11, ground := Ground.chain }], guard := none }
def o6_38 : Oper := { dst := some 105, op := Op.load 45 (Operand.tmp 2), type := 45, pos := "law.go:102", after := #[], guard := none }
def o6_39 : Oper := { dst := some 106, op := Op.load 45 (Operand.tmp 1), type := 45, pos := "law.go:102", after := #[], guard := none }
def o6_40 : Oper := { dst := some 107, op := Op.buildSlice 22 3 #[(0, Operand.tmp 104), (1, Operand.tmp 105), (2, Operand.tmp 106)], type := 22, pos := "law.go:102", after := #[{ on := 37, ground := Ground.data }, { on := 38, ground := Ground.data }, { on := 39, ground := Ground.data }], guard := none }
def o6_41 : Oper := { dst := some 108, op := Op.call { callee := Callee.value (Operand.func 20), args := #[Operand.const (Value.int IntKind.i64 1)], argTypes := #[3] }, type := 45, pos := "law.go:102", after := #[{ on := 37, ground := Ground.chain }], guard := none }
def o6_42 : Oper := { dst := some 109, op := Op.load 45 (Operand.tmp 2), type := 45, pos := "law.go:102", after := #[], guard := none }
def o6_43 : Oper := { dst := some 110, op := Op.load 45 (Operand.tmp 1), type := 45, pos := "law.go:102", after := #[], guard := none }
def o6_44 : Oper := { dst := some 111, op := Op.buildSlice 22 3 #[(0, Operand.tmp 108), (1, Operand.tmp 109), (2, Operand.tmp 110)], type := 22, pos := "law.go:102", after := #[{ on := 41, ground := Ground.data }, { on := 42, ground := Ground.data }, { on := 43, ground := Ground.data }], guard := none }
def o6_45 : Oper := { dst := some 112, op := Op.call { callee := Callee.value (Operand.func 19), args := #[Operand.const (Value.int IntKind.i64 1), Operand.const (Value.int IntKind.i64 2)], argTypes := #[3, 3] }, type := 45, pos := "law.go:102", after := #[{ on := 41, ground := Ground.chain }], guard := none }
def o6_46 : Oper := { dst := some 113, op := Op.load 45 (Operand.tmp 4), type := 45, pos := "law.go:102", after := #[], guard := none }
def o6_47 : Oper := { dst := some 114, op := Op.load 45 (Operand.tmp 5), type := 45, pos := "law.go:102", after := #[], guard := none }
def o6_48 : Oper := { dst := some 115, op := Op.load 45 (Operand.tmp 1), type := 45, pos := "law.go:102", after := #[], guard := none }
def o6_49 : Oper := { dst := some 116, op := Op.buildSlice 22 4 #[(0, Operand.tmp 112), (1, Operand.tmp 113), (2, Operand.tmp 114), (3, Operand.tmp 115)], type := 22, pos := "law.go:102", after := #[{ on := 45, ground := Ground.data }, { on := 46, ground := Ground.data }, { on := 47, ground := Ground.data }, { on := 48, ground := Ground.data }], guard := none }
def o6_50 : Oper := { dst := some 117, op := Op.load 45 (Operand.tmp 4), type := 45, pos := "law.go:102", after := #[], guard := none }
def o6_51 : Oper := { dst := some 118, op := Op.call { callee := Callee.value (Operand.func 20), args := #[Operand.const (Value.int IntKind.i64 1)], argTypes := #[3] }, type := 45, pos := "law.go:102", after := #[{ on := 45, ground := Ground.chain }], guard := none }
def o6_52 : Oper := { dst := some 119, op := Op.load 45 (Operand.tmp 5), type := 45, pos := "law.go:102", after := #[], guard := none }
def o6_53 : Oper := { dst := some 120, op := Op.load 45 (Operand.tmp 3), type := 45, pos := "law.go:102", after := #[], guard := none }
def o6_54 : Oper := { dst := some 121, op := Op.load 45 (Operand.tmp 1), type := 45, pos := "law.go:102", after := #[], guard := none }
def o6_55 : Oper := { dst := some 122, op := Op.buildSlice 22 5 #[(0, Operand.tmp 117), (1, Operand.tmp 118), (2, Operand.tmp 119), (3, Operand.tmp 120), (4, Operand.tmp 121)], type := 22, pos := "law.go:102", after := #[{ on := 50, ground := Ground.data }, { on := 51, ground := Ground.data }, { on := 52, ground := Ground.data }, { on := 53, ground := Ground.data }, { on := 54, ground := Ground.data }], guard := none }
def o6_56 : Oper := { dst := some 123, op := Op.call { callee := Callee.value (Operand.func 19), args := #[Operand.const (Value.int IntKind.i64 2), Operand.const (Value.int IntKind.i64 2)], argTypes := #[3, 3] }, type := 45, pos := "law.go:102", after := #[{ on := 51, ground := Ground.chain }], guard := none }
def o6_57 : Oper := { dst := some 124, op := Op.load 45 (Operand.tmp 3), type := 45, pos := "law.go:102", after := #[], guard := none }
def o6_58 : Oper := { dst := some 125, op := Op.call { callee := Callee.value (Operand.func 20), args := #[Operand.const (Value.int IntKind.i64 1)], argTypes := #[3] }, type := 45, pos := "law.go:102", after := #[{ on := 56, ground := Ground.chain }], guard := none }
def o6_59 : Oper := { dst := some 126, op := Op.load 45 (Operand.tmp 3), type := 45, pos := "law.go:102", after := #[], guard := none }
def o6_60 : Oper := { dst := some 127, op := Op.load 45 (Operand.tmp 1), type := 45, pos := "law.go:102", after := #[], guard := none }
def o6_61 : Oper := { dst := some 128, op := Op.buildSlice 22 5 #[(0, Operand.tmp 123), (1, Operand.tmp 124), (2, Operand.tmp 125), (3, Operand.tmp 126), (4, Operand.tmp 127)], type := 22, pos := "law.go:102", after := #[{ on := 56, ground := Ground.data }, { on := 57, ground := Ground.data }, { on := 58, ground := Ground.data }, { on := 59, ground := Ground.data }, { on := 60, ground := Ground.data }], guard := none }
def o6_62 : Oper := { dst := some 129, op := Op.call { callee := Callee.value (Operand.func 19), args := #[Operand.const (Value.int IntKind.i64 1), Operand.const (Value.int IntKind.i64 2)], argTypes := #[3, 3] }, type := 45, pos := "law.go:102", after := #[{ on := 58, ground := Ground.chain }], guard := none }
def o6_63 : Oper := { dst := some 130, op := Op.call { callee := Callee.value (Operand.func 19), args := #[Operand.const (Value.int IntKind.i64 1), Operand.const (Value.int IntKind.i64 2)], argTypes := #[3, 3] }, type := 45, pos := "law.go:102", after := #[{ on := 62, ground := Ground.chain }], guard := none }
def o6_64 : Oper := { dst := some 131, op := Op.load 45 (Operand.tmp 3), type := 45, pos := "law.go:102", after := #[], guard := none }
def o6_65 : Oper := { dst := some 132, op := Op.load 45 (Operand.tmp 1), type := 45, pos := "law.go:102", after := #[], guard := none }
def o6_66 : Oper := { dst := some 133, op := Op.buildSlice 22 4 #[(0, Operand.tmp 129), (1, Operand.tmp 130), (2, Operand.tmp 131), (3, Operand.tmp 132)], type := 22, pos := "law.go:102", after := #[{ on := 62, ground := Ground.data }, { on := 63, ground := Ground.data }, { on := 64, ground := Ground.data }, { on := 65, ground := Ground.data }], guard := none }
def o6_67 : Oper := { dst := some 134, op := Op.call { callee := Callee.value (Operand.func 19), args := #[Operand.const (Value.int IntKind.i64 5), Operand.const (Value.int IntKind.i64 2)], argTypes := #[3, 3] }, type := 45, pos := "law.go:102", after := #[{ on := 63, ground := Ground.chain }], guard := none }
def o6_68 : Oper := { dst := some 135, op := Op.call { callee := Callee.value (Operand.func 19), args := #[Operand.const (Value.int IntKind.i64 4), Operand.const (Value.int IntKind.i64 2)], argTypes := #[3, 3] }, type := 45, pos := "law.go:102", after := #[{ on := 67, ground := Ground.chain }], guard := none }
def o6_69 : Oper := { dst := some 136, op := Op.call { callee := Callee.value (Operand.func 19), args := #[Operand.const (Value.int IntKind.i64 3), Operand.const (Value.int IntKind.i64 2)], argTypes := #[3, 3] }, type := 45, pos := "law.go:102", after := #[{ on := 68, ground := Ground.chain }], guard := none }
def o6_70 : Oper := { dst := some 137, op := Op.load 45 (Operand.tmp 3), type := 45, pos := "law.go:102", after := #[], guard := none }
def o6_71 : Oper := { dst := some 138, op := Op.load 45 (Operand.tmp 3), type := 45, pos := "law.go:102", after := #[], guard := none }
def o6_72 : Oper := { dst := some 139, op := Op.load 45 (Operand.tmp 3), type := 45, pos := "law.go:102", after := #[], guard := none }
def o6_73 : Oper := { dst := some 140, op := Op.load 45 (Operand.tmp 1), type := 45, pos := "law.go:102", after := #[], guard := none }
def o6_74 : Oper := { dst := some 141, op := Op.buildSlice 22 7 #[(0, Operand.tmp 134), (1, Operand.tmp 135), (2, Operand.tmp 136), (3, Operand.tmp 137), (4, Operand.tmp 138), (5, Operand.tmp 139), (6, Operand.tmp 140)], type := 22, pos := "law.go:102", after := #[{ on := 67, ground := Ground.data }, { on := 68, ground := Ground.data }, { on := 69, ground := Ground.data }, { on := 70, ground := Ground.data }, { on := 71, ground := Ground.data }, { on := 72, ground := Ground.data }, { on := 73, ground := Ground.data }], guard := none }
def o6_75 : Oper := { dst := some 142, op := Op.call { callee := Callee.value (Operand.func 20), args := #[Operand.const (Value.int IntKind.i64 2)], argTypes := #[3] }, type := 45, pos := "law.go:102", after := #[{ on := 69, ground := Ground.chain }], guard := none }
def o6_76 : Oper := { dst := some 143, op := Op.load 45 (Operand.tmp 3), type := 45, pos := "law.go:102", after := #[], guard := none }
def o6_77 : Oper := { dst := some 144, op := Op.call { callee := Callee.value (Operand.func 19), args := #[Operand.const (Value.int IntKind.i64 2), Operand.const (Value.int IntKind.i64 2)], argTypes := #[3, 3] }, type := 45, pos := "law.go:102", after := #[{ on := 75, ground := Ground.chain }], guard := none }
def o6_78 : Oper := { dst := some 145, op := Op.load 45 (Operand.tmp 3), type := 45, pos := "law.go:102", after := #[], guard := none }
def o6_79 : Oper := { dst := some 146, op := Op.load 45 (Operand.tmp 3), type := 45, pos := "law.go:102", after := #[], guard := none }
def o6_80 : Oper := { dst := some 147, op := Op.load 45 (Operand.tmp 1), type := 45, pos := "law.go:102", after := #[], guard := none }
def o6_81 : Oper := { dst := some 148, op := Op.buildSlice 22 6 #[(0, Operand.tmp 142), (1, Operand.tmp 143), (2, Operand.tmp 144), (3, Operand.tmp 145), (4, Operand.tmp 146), (5, Operand.tmp 147)], type := 22, pos := "law.go:102", after := #[{ on := 75, ground := Ground.data }, { on := 76, ground := Ground.data }, { on := 77, ground := Ground.data }, { on := 78, ground := Ground.data }, { on := 79, ground := Ground.data }, { on := 80, ground := Ground.data }], guard := none }
def o6_82 : Oper := { dst := some 149, op := Op.load 45 (Operand.tmp 4), type := 45, pos := "law.go:102", after := #[], guard := none }
def o6_83 : Oper := { dst := some 150, op := Op.load 45 (Operand.tmp 6), type := 45, pos := "law.go:102", after := #[], guard := none }
def o6_84 : Oper := { dst := some 151, op := Op.build 45 #[(0, Operand.const (Value.int IntKind.i64 9)), (1, Operand.const (Value.int IntKind.i64 2))], type := 45, pos := "law.go:102", after := #[], guard := none }
def o6_85 : Oper := { dst := some 152, op := Op.build 45 #[(0, Operand.const (Value.int IntKind.i64 10)), (1, Operand.const (Value.int IntKind.i64 2))], type := 45, pos := "law.go:102", after := #[], guard := none }
def o6_86 : Oper := { dst := some 153, op := Op.load 45 (Operand.tmp 7), type := 45, pos := "law.go:102", after := #[], guard := none }
def o6_87 : Oper := { dst := some 154, op := Op.load 45 (Operand.tmp 5), type := 45, pos := "law.go:102", after := #[], guard := none }
def o6_88 : Oper := { dst := some 155, op := Op.load 45 (Operand.tmp 1), type := 45, pos := "law.go:102", after := #[], guard := none }
def o6_89 : Oper := { dst := some 156, op := Op.buildSlice 22 7 #[(0, Operand.tmp 149), (1, Operand.tmp 150), (2, Operand.tmp 151), (3, Operand.tmp 152), (4, Operand.tmp 153), (5, Operand.tmp 154), (6, Operand.tmp 155)], type := 22, pos := "law.go:102", after := #[{ on := 82, ground := Ground.data }, { on := 83, ground := Ground.data }, { on := 84, ground := Ground.data }, { on := 85, ground := Ground.data }, { on := 86, ground := Ground.data }, { on := 87, ground := Ground.data }, { on := 88, ground := Ground.data }], guard := none }
def o6_90 : Oper := { dst := some 157, op := Op.buildSlice 29 20 #[(0, Operand.const (Value.slice none 0 0)), (1, Operand.tmp 68), (2, Operand.tmp 71), (3, Operand.tmp 74), (4, Operand.tmp 77), (5, Operand.tmp 80), (6, Operand.tmp 83), (7, Operand.tmp 86), (8, Operand.tmp 92), (9, Operand.tmp 98), (10, Operand.tmp 103), (11, Operand.tmp 107), (12, Operand.tmp 111), (13, Operand.tmp 116), (14, Operand.tmp 122), (15, Operand.tmp 128), (16, Operand.tmp 133), (17, Operand.tmp 141), (18, Operand.tmp 148), (19, Operand.tmp 156)], type := 29, pos := "law.go:102", after := #[{ on := 1, ground := Ground.data }, { on := 4, ground := Ground.data }, { on := 7, ground := Ground.data }, { on := 10, ground := Ground.data }, { on := 13, ground := Ground.data }, { on := 16, ground := Ground.data }, { on := 19, ground := Ground.data }, { on := 25, ground := Ground.data }, { on := 31, ground := Ground.data }, { on := 36, ground := Ground.data }, { on := 40, ground := Ground.data }, { on := 44, ground := Ground.data }, { on := 49, ground := Ground.data }, { on := 55, ground := Ground.data }, { on := 61, ground := Ground.data }, { on := 66, ground := Ground.data }, { on := 74, ground := Ground.data }, { on := 81, ground := Ground.data }, { on := 89, ground := Ground.data }], guard := none }
def o6_91 : Oper := { dst := some 9, op := Op.assign (Operand.tmp 157), type := 29, pos := "law.go:102", after := ([{ on := 90, ground := Ground.data }, { on := 77, ground := Ground.chain }, { on := 0, ground := Ground.phase }, { on := 1, ground := Ground.phase }, { on := 2, ground := Ground.phase }, { on := 3, ground := Ground.phase }, { on := 4, ground := Ground.phase }, { on := 5, ground := Ground.phase }, { on := 6, ground := Ground.phase }, { on := 7, ground := Ground.phase }, { on := 8, ground := Ground.phase }, { on := 9, ground := Ground.phase }, { on := 10, ground := Ground.phase }, { on := 11, ground := Ground.phase }, { on := 12, ground := Ground.phase }, { on := 13, ground := Ground.phase }, { on := 14, ground := Ground.phase }, { on := 15, ground := Ground.phase }, { on := 16, ground := Ground.phase }, { on := 17, ground := Ground.phase }, { on := 18, ground := Ground.phase }, { on := 19, ground := Ground.phase }, { on := 20, ground := Ground.phase }, { on := 21, ground := Ground.phase }, { on := 22, ground := Ground.phase }, { on := 23, ground := Ground.phase }, { on := 24, ground := Ground.phase }, { on := 25, ground := Ground.phase }, { on := 26, ground := Ground.phase }, { on := 27, ground := Ground.phase }, { on := 28, ground := Ground.phase }, { on := 29, ground := Ground.phase }, { on := 30, ground := Ground.phase }, { on := 31, ground := Ground.phase }, { on := 32, ground := Ground.phase }, { on := 33, ground := Ground.phase }, { on := 34, ground := Ground.phase }, { on := 35, ground := Ground.phase }, { on := 36, ground := Ground.phase }, { on := 37, ground := Ground.phase }, { on := 38, ground := Ground.phase }, { on := 39, ground := Ground.phase }, { on := 40, ground := Ground.phase }, { on := 41, ground := Ground.phase }, { on := 42, ground := Ground.phase }, { on := 43, ground := Ground.phase }].append [{ on := 44, ground := Ground.phase }, { on := 45, ground := Ground.phase }, { on := 46, ground := Ground.phase }, { on := 47, ground := Ground.phase }, { on := 48, ground := Ground.phase }, { on := 49, ground := Ground.phase }, { on := 50, ground := Ground.phase }, { on := 51, ground := Ground.phase }, { on := 52, ground := Ground.phase }, { on := 53, ground := Ground.phase }, { on := 54, ground := Ground.phase }, { on := 55, ground := Ground.phase }, { on := 56, ground := Ground.phase }, { on := 57, ground := Ground.phase }, { on := 58, ground := Ground.phase }, { on := 59, ground := Ground.phase }, { on := 60, ground := Ground.phase }, { on := 61, ground := Ground.phase }, { on := 62, ground := Ground.phase }, { on := 63, ground := Ground.phase }, { on := 64, ground := Ground.phase }, { on := 65, ground := Ground.phase }, { on := 66, ground := Ground.phase }, { on := 67, ground := Ground.phase }, { on := 68, ground := Ground.phase }, { on := 69, ground := Ground.phase }, { on := 70, ground := Ground.phase }, { on := 71, ground := Ground.phase }, { on := 72, ground := Ground.phase }, { on := 73, ground := Ground.phase }, { on := 74, ground := Ground.phase }, { on := 75, ground := Ground.phase }, { on := 76, ground := Ground.phase }, { on := 77, ground := Ground.phase }, { on := 78, ground := Ground.phase }, { on := 79, ground := Ground.phase }, { on := 80, ground := Ground.phase }, { on := 81, ground := Ground.phase }, { on := 82, ground := Ground.phase }, { on := 83, ground := Ground.phase }, { on := 84, ground := Ground.phase }, { on := 85, ground := Ground.phase }, { on := 86, ground := Ground.phase }, { on := 87, ground := Ground.phase }, { on := 88, ground := Ground.phase }, { on := 89, ground := Ground.phase }, { on := 90, ground := Ground.phase }]).toArray, guard := none }
def ops6 : Array Oper := #[o6_0, o6_1, o6_2, o6_3, o6_4, o6_5, o6_6, o6_7, o6_8, o6_9, o6_10, o6_11, o6_12, o6_13, o6_14, o6_15, o6_16, o6_17, o6_18, o6_19, o6_20, o6_21, o6_22, o6_23, o6_24, o6_25, o6_26, o6_27, o6_28, o6_29, o6_30, o6_31, o6_32, o6_33, o6_34, o6_35, o6_36, o6_37, o6_38, o6_39, o6_40, o6_41, o6_42, o6_43, o6_44, o6_45, o6_46, o6_47, o6_48, o6_49, o6_50, o6_51, o6_52, o6_53, o6_54, o6_55, o6_56, o6_57, o6_58, o6_59, o6_60, o6_61, o6_62, o6_63, o6_64, o6_65, o6_66, o6_67, o6_68, o6_69, o6_70, o6_71, o6_72, o6_73, o6_74, o6_75, o6_76, o6_77, o6_78, o6_79, o6_80, o6_81, o6_82, o6_83, o6_84, o6_85, o6_86, o6_87, o6_88, o6_89, o6_90, o6_91]
def sp6 : List Sp := [.ins (1, 0, 0, 0), .prog [(1, 0, 0, 0)], .ins (0, 0, 0, 0), .ins (0, 0, 0, 0), .prog [(0, 0, 0, 0), (0, 0, 0, 0)], .ins (0, 0, 0, 0), .ins (1, 0, 0, 0), .prog [(0, 0, 0, 0), (1, 0, 0, 0)], .ins (8, 0, 1, 2), .ins (0, 0, 0, 0), .prog [(8, 0, 1, 2), (0, 0, 0, 0)], .ins (7, 0, 0, 1), .ins (0, 0, 0, 0), .prog [(7, 0, 0, 1), (0, 0, 0, 0)], .ins (9, 0, 0, 0), .ins (0, 0, 0, 0), .prog [(9, 0, 0, 0), (0, 0, 0, 0)], .ins (10, 0, 0, 0), .ins (0, 0, 0, 0), .prog [(10, 0, 0, 0), (0, 0, 0, 0)], .ins (9, 0, 0, 0), .ins (9, 1, 0, 0), .ins (10, 0, 0, 0), .ins (10, 1, 0, 0), .ins (0, 0, 0, 0), .prog [(9, 0, 0, 0), (9, 1, 0, 0), (10, 0, 0, 0), (10, 1, 0, 0), (0, 0, 0, 0)], .ins (9, 0, 0, 0), .ins (9, 0, 0, 0), .ins (10, 0, 0, 0), .ins (10, 0, 0, 0), .ins (0, 0, 0, 0), .prog [(9, 0, 0, 0), (9, 0, 0, 0), (10, 0, 0, 0), (10, 0, 0, 0), (0, 0, 0, 0)], .ins (9, 0, 0, 0), .ins (11, 0, 0, 0), .ins (10, 0, 0, 0), .ins (0, 0, 0, 0), .prog [(9, 0, 0, 0), (11, 0, 0, 0), (10, 0, 0, 0), (0, 0, 0, 0)], .ins (8, 0, 1, 2), .ins (11, 0, 0, 0), .ins (0, 0, 0, 0), .prog [(8, 0, 1, 2), (11, 0, 0, 0), (0, 0, 0, 0)], .ins (7, 0, 0, 1), .ins (11, 0, 0, 0), .ins (0, 0, 0, 0), .prog [(7, 0, 0, 1), (11, 0, 0, 0), (0, 0, 0, 0)], .ins (8, 0, 1, 2), .ins (9, 0, 0, 0), .ins (10, 0, 0, 0), .ins (0, 0, 0, 0), .prog [(8, 0, 1, 2), (9, 0, 0, 0), (10, 0, 0, 0), (0, 0, 0, 0)], .ins (9, 0, 0, 0), .ins (7, 0, 0, 1), .ins (10, 0, 0, 0), .ins (1, 0, 0, 0), .ins (0, 0, 0, 0), .prog [(9, 0, 0, 0), (7, 0, 0, 1), (10, 0, 0, 0), (1, 0, 0, 0), (0, 0, 0, 0)], .ins (8, 0, 2, 2), .ins (1, 0, 0, 0), .ins (7, 0, 0, 1), .ins (1, 0, 0, 0), .ins (0, 0, 0, 0), .prog [(8, 0, 2, 2), (1, 0, 0, 0), (7, 0, 0, 1), (1, 0, 0, 0), (0, 0, 0, 0)], .ins (8, 0, 1, 2), .ins (8, 0, 1, 2), .ins (1, 0, 0, 0), .ins (0, 0, 0, 0), .prog [(8, 0, 1, 2), (8, 0, 1, 2), (1, 0, 0, 0), (0, 0, 0, 0)], .ins (8, 0, 5, 2), .ins (8, 0, 4, 2), .ins (8, 0, 3, 2), .ins (1, 0, 0, 0), .ins (1, 0, 0, 0), .ins (1, 0, 0, 0), .ins (0, 0, 0, 0), .prog [(8, 0, 5, 2), (8, 0, 4, 2), (8, 0, 3, 2), (1, 0, 0, 0), (1, 0, 0, 0), (1, 0, 0, 0), (0, 0, 0, 0)], .ins (7, 0, 0, 2), .ins (1, 0, 0, 0), .ins (8, 0, 2, 2), .ins (1, 0, 0, 0), .ins (1, 0, 0, 0), .ins (0, 0, 0, 0), .prog [(7, 0, 0, 2), (1, 0, 0, 0), (8, 0, 2, 2), (1, 0, 0, 0), (1, 0, 0, 0), (0, 0, 0, 0)], .ins (9, 0, 0, 0), .ins (9, 1, 0, 0), .ins (9, 2, 0, 0), .ins (10, 2, 0, 0), .ins (10, 1, 0, 0), .ins (10, 0, 0, 0), .ins (0, 0, 0, 0), .prog [(9, 0, 0, 0), (9, 1, 0, 0), (9, 2, 0, 0), (10, 2, 0, 0), (10, 1, 0, 0), (10, 0, 0, 0), (0, 0, 0, 0)], .lots [[], [(1, 0, 0, 0)], [(0, 0, 0, 0), (0, 0, 0, 0)], [(0, 0, 0, 0), (1, 0, 0, 0)], [(8, 0, 1, 2), (0, 0, 0, 0)], [(7, 0, 0, 1), (0, 0, 0, 0)], [(9, 0, 0, 0), (0, 0, 0, 0)], [(10, 0, 0, 0), (0, 0, 0, 0)], [(9, 0, 0, 0), (9, 1, 0, 0), (10, 0, 0, 0), (10, 1, 0, 0), (0, 0, 0, 0)], [(9, 0, 0, 0), (9, 0, 0, 0), (10, 0, 0, 0), (10, 0, 0, 0), (0, 0, 0, 0)], [(9, 0, 0, 0), (11, 0, 0, 0), (10, 0, 0, 0), (0, 0, 0, 0)], [(8, 0, 1, 2), (11, 0, 0, 0), (0, 0, 0, 0)], [(7, 0, 0, 1), (11, 0, 0, 0), (0, 0, 0, 0)], [(8, 0, 1, 2), (9, 0, 0, 0), (10, 0, 0, 0), (0, 0, 0, 0)], [(9, 0, 0, 0), (7, 0, 0, 1), (10, 0, 0, 0), (1, 0, 0, 0), (0, 0, 0, 0)], [(8, 0, 2, 2), (1, 0, 0, 0), (7, 0, 0, 1), (1, 0, 0, 0), (0, 0, 0, 0)], [(8, 0, 1, 2), (8, 0, 1, 2), (1, 0, 0, 0), (0, 0, 0, 0)], [(8, 0, 5, 2), (8, 0, 4, 2), (8, 0, 3, 2), (1, 0, 0, 0), (1, 0, 0, 0), (1, 0, 0, 0), (0, 0, 0, 0)], [(7, 0, 0, 2), (1, 0, 0, 0), (8, 0, 2, 2), (1, 0, 0, 0), (1, 0, 0, 0), (0, 0, 0, 0)], [(9, 0, 0, 0), (9, 1, 0, 0), (9, 2, 0, 0), (10, 2, 0, 0), (10, 1, 0, 0), (10, 0, 0, 0), (0, 0, 0, 0)]], .lots [[], [(1, 0, 0, 0)], [(0, 0, 0, 0), (0, 0, 0, 0)], [(0, 0, 0, 0), (1, 0, 0, 0)], [(8, 0, 1, 2), (0, 0, 0, 0)], [(7, 0, 0, 1), (0, 0, 0, 0)], [(9, 0, 0, 0), (0, 0, 0, 0)], [(10, 0, 0, 0), (0, 0, 0, 0)], [(9, 0, 0, 0), (9, 1, 0, 0), (10, 0, 0, 0), (10, 1, 0, 0), (0, 0, 0, 0)], [(9, 0, 0, 0), (9, 0, 0, 0), (10, 0, 0, 0), (10, 0, 0, 0), (0, 0, 0, 0)], [(9, 0, 0, 0), (11, 0, 0, 0), (10, 0, 0, 0), (0, 0, 0, 0)], [(8, 0, 1, 2), (11, 0, 0, 0), (0, 0, 0, 0)], [(7, 0, 0, 1), (11, 0, 0, 0), (0, 0, 0, 0)], [(8, 0, 1, 2), (9, 0, 0, 0), (10, 0, 0, 0), (0, 0, 0, 0)], [(9, 0, 0, 0), (7, 0, 0, 1), (10, 0, 0, 0), (1, 0, 0, 0), (0, 0, 0, 0)], [(8, 0, 2, 2), (1, 0, 0, 0), (7, 0, 0, 1), (1, 0, 0, 0), (0, 0, 0, 0)], [(8, 0, 1, 2), (8, 0, 1, 2), (1, 0, 0, 0), (0, 0, 0, 0)], [(8, 0, 5, 2), (8, 0, 4, 2), (8, 0, 3, 2), (1, 0, 0, 0), (1, 0, 0, 0), (1, 0, 0, 0), (0, 0, 0, 0)], [(7, 0, 0, 2), (1, 0, 0, 0), (8, 0, 2, 2), (1, 0, 0, 0), (1, 0, 0, 0), (0, 0, 0, 0)], [(9, 0, 0, 0), (9, 1, 0, 0), (9, 2, 0, 0), (10, 2, 0, 0), (10, 1, 0, 0), (10, 0, 0, 0), (0, 0, 0, 0)]]]
def ds6 : List Nat := [67, 68, 69, 70, 71, 72, 73, 74, 75, 76, 77, 78, 79, 80, 81, 82, 83, 84, 85, 86, 87, 88, 89, 90, 91, 92, 93, 94, 95, 96, 97, 98, 99, 100, 101, 102, 103, 104, 105, 106, 107, 108, 109, 110, 111, 112, 113, 114, 115, 116, 117, 118, 119, 120, 121, 122, 123, 124, 125, 126, 127, 128, 129, 130, 131, 132, 133, 134, 135, 136, 137, 138, 139, 140, 141, 142, 143, 144, 145, 146, 147, 148, 149, 150, 151, 152, 153, 154, 155, 156, 157, 9]
set_option maxRecDepth 100000 in
theorem rg6 : Rg ops6 ds6 := ⟨by decide, rfl, by decide, fun t h1 h7 => by
  have : t = 1 ∨ t = 2 ∨ t = 3 ∨ t = 4 ∨ t = 5 ∨ t = 6 ∨ t = 7 := by omega
  rcases this with rfl | rfl | rfl | rfl | rfl | rfl | rfl <;> decide⟩
theorem sz6 : ops6.size = 92 := rfl
set_option maxRecDepth 20000 in
theorem s6_0 {w0 : World} {tm : Array Value} {listed : Array Bool} {a : Act} {w : World} {Q : Exit → Act → World → Prop} {rb : Nat → Nat} (h : Iv ops6 sp6 ds6 w0 tm listed a w) (hV : Vr rb w0 tm)  : wpOp Try.prog ops6 Q 0 (fun a' w' => Iv ops6 sp6 ds6 w0 tm (listed.setIfInBounds 0 true) a' w') a w := st_load rg6 h hV (o := o6_0) rfl rfl rfl rfl rfl (by omega) (by omega) rfl (by rw [sz6]; omega)
set_option maxRecDepth 20000 in
theorem s6_1 {w0 : World} {tm : Array Value} {listed : Array Bool} {a : Act} {w : World} {Q : Exit → Act → World → Prop} (h : Iv ops6 sp6 ds6 w0 tm listed a w)  (hr : ∀ e ∈ o6_1.after, Region.binds .any e = true → listed.getD e.on false = true) : wpOp Try.prog ops6 Q 1 (fun a' w' => Iv ops6 sp6 ds6 w0 tm (listed.setIfInBounds 1 true) a' w') a w := by
  have e0 : a.eval (.tmp 67) = .agg #[.int .i64 1, .int .i64 0, .int .i64 0, .int .i64 0] := h.val 0 (by rw [sz6]; omega) (hr ⟨0, .data⟩ (by simp [o6_1]) rfl)
  refine st_row rg6 h (o := o6_1) (l := [(1, 0, 0, 0)]) (cells := #[.int .i64 1, .int .i64 0, .int .i64 0, .int .i64 0]) rfl rfl rfl rfl rfl rfl rfl (by omega) (by omega) (by rw [sz6]; omega) (fun ie z _ _ hsz hzz => ?_) rfl
  subst hzz
  simp only [hsz, List.map_toArray, List.map_cons, List.map_nil, e0]
  kernel_rfl
set_option maxRecDepth 20000 in
theorem s6_2 {w0 : World} {tm : Array Value} {listed : Array Bool} {a : Act} {w : World} {Q : Exit → Act → World → Prop} {rb : Nat → Nat} (h : Iv ops6 sp6 ds6 w0 tm listed a w) (hV : Vr rb w0 tm)  : wpOp Try.prog ops6 Q 2 (fun a' w' => Iv ops6 sp6 ds6 w0 tm (listed.setIfInBounds 2 true) a' w') a w := st_load rg6 h hV (o := o6_2) rfl rfl rfl rfl rfl (by omega) (by omega) rfl (by rw [sz6]; omega)
set_option maxRecDepth 20000 in
theorem s6_3 {w0 : World} {tm : Array Value} {listed : Array Bool} {a : Act} {w : World} {Q : Exit → Act → World → Prop} {rb : Nat → Nat} (h : Iv ops6 sp6 ds6 w0 tm listed a w) (hV : Vr rb w0 tm)  : wpOp Try.prog ops6 Q 3 (fun a' w' => Iv ops6 sp6 ds6 w0 tm (listed.setIfInBounds 3 true) a' w') a w := st_load rg6 h hV (o := o6_3) rfl rfl rfl rfl rfl (by omega) (by omega) rfl (by rw [sz6]; omega)
set_option maxRecDepth 20000 in
theorem s6_4 {w0 : World} {tm : Array Value} {listed : Array Bool} {a : Act} {w : World} {Q : Exit → Act → World → Prop} (h : Iv ops6 sp6 ds6 w0 tm listed a w)  (hr : ∀ e ∈ o6_4.after, Region.binds .any e = true → listed.getD e.on false = true) : wpOp Try.prog ops6 Q 4 (fun a' w' => Iv ops6 sp6 ds6 w0 tm (listed.setIfInBounds 4 true) a' w') a w := by
  have e0 : a.eval (.tmp 69) = .agg #[.int .i64 0, .int .i64 0, .int .i64 0, .int .i64 0] := h.val 2 (by rw [sz6]; omega) (hr ⟨2, .data⟩ (by simp [o6_4]) rfl)
  have e1 : a.eval (.tmp 70) = .agg #[.int .i64 0, .int .i64 0, .int .i64 0, .int .i64 0] := h.val 3 (by rw [sz6]; omega) (hr ⟨3, .data⟩ (by simp [o6_4]) rfl)
  refine st_row rg6 h (o := o6_4) (l := [(0, 0, 0, 0), (0, 0, 0, 0)]) (cells := #[.int .i64 0, .int .i64 0, .int .i64 0, .int .i64 0, .int .i64 0, .int .i64 0, .int .i64 0, .int .i64 0]) rfl rfl rfl rfl rfl rfl rfl (by omega) (by omega) (by rw [sz6]; omega) (fun ie z _ _ hsz hzz => ?_) rfl
  subst hzz
  simp only [hsz, List.map_toArray, List.map_cons, List.map_nil, e0, e1]
  kernel_rfl
set_option maxRecDepth 20000 in
theorem s6_5 {w0 : World} {tm : Array Value} {listed : Array Bool} {a : Act} {w : World} {Q : Exit → Act → World → Prop} {rb : Nat → Nat} (h : Iv ops6 sp6 ds6 w0 tm listed a w) (hV : Vr rb w0 tm)  : wpOp Try.prog ops6 Q 5 (fun a' w' => Iv ops6 sp6 ds6 w0 tm (listed.setIfInBounds 5 true) a' w') a w := st_load rg6 h hV (o := o6_5) rfl rfl rfl rfl rfl (by omega) (by omega) rfl (by rw [sz6]; omega)
set_option maxRecDepth 20000 in
theorem s6_6 {w0 : World} {tm : Array Value} {listed : Array Bool} {a : Act} {w : World} {Q : Exit → Act → World → Prop} {rb : Nat → Nat} (h : Iv ops6 sp6 ds6 w0 tm listed a w) (hV : Vr rb w0 tm)  : wpOp Try.prog ops6 Q 6 (fun a' w' => Iv ops6 sp6 ds6 w0 tm (listed.setIfInBounds 6 true) a' w') a w := st_load rg6 h hV (o := o6_6) rfl rfl rfl rfl rfl (by omega) (by omega) rfl (by rw [sz6]; omega)
set_option maxRecDepth 20000 in
theorem s6_7 {w0 : World} {tm : Array Value} {listed : Array Bool} {a : Act} {w : World} {Q : Exit → Act → World → Prop} (h : Iv ops6 sp6 ds6 w0 tm listed a w)  (hr : ∀ e ∈ o6_7.after, Region.binds .any e = true → listed.getD e.on false = true) : wpOp Try.prog ops6 Q 7 (fun a' w' => Iv ops6 sp6 ds6 w0 tm (listed.setIfInBounds 7 true) a' w') a w := by
  have e0 : a.eval (.tmp 72) = .agg #[.int .i64 0, .int .i64 0, .int .i64 0, .int .i64 0] := h.val 5 (by rw [sz6]; omega) (hr ⟨5, .data⟩ (by simp [o6_7]) rfl)
  have e1 : a.eval (.tmp 73) = .agg #[.int .i64 1, .int .i64 0, .int .i64 0, .int .i64 0] := h.val 6 (by rw [sz6]; omega) (hr ⟨6, .data⟩ (by simp [o6_7]) rfl)
  refine st_row rg6 h (o := o6_7) (l := [(0, 0, 0, 0), (1, 0, 0, 0)]) (cells := #[.int .i64 0, .int .i64 0, .int .i64 0, .int .i64 0, .int .i64 1, .int .i64 0, .int .i64 0, .int .i64 0]) rfl rfl rfl rfl rfl rfl rfl (by omega) (by omega) (by rw [sz6]; omega) (fun ie z _ _ hsz hzz => ?_) rfl
  subst hzz
  simp only [hsz, List.map_toArray, List.map_cons, List.map_nil, e0, e1]
  kernel_rfl
set_option maxRecDepth 20000 in
theorem s6_8 {w0 : World} {tm : Array Value} {listed : Array Bool} {a : Act} {w : World} {Q : Exit → Act → World → Prop} (h : Iv ops6 sp6 ds6 w0 tm listed a w)   : wpOp Try.prog ops6 Q 8 (fun a' w' => Iv ops6 sp6 ds6 w0 tm (listed.setIfInBounds 8 true) a' w') a w := by
  refine wp_one (o := o6_8) rfl rfl ?_
  unfold o6_8
  go_simp
  go_at_call 19
  refine (rep_any 1 2 w).mono ?_
  rintro e w1 ⟨rfl, hb⟩
  exact h.put rg6.nd rg6.len rg6.lt (i := 8) (by rw [sz6]; omega) hb rfl
set_option maxRecDepth 20000 in
theorem s6_9 {w0 : World} {tm : Array Value} {listed : Array Bool} {a : Act} {w : World} {Q : Exit → Act → World → Prop} {rb : Nat → Nat} (h : Iv ops6 sp6 ds6 w0 tm listed a w) (hV : Vr rb w0 tm)  : wpOp Try.prog ops6 Q 9 (fun a' w' => Iv ops6 sp6 ds6 w0 tm (listed.setIfInBounds 9 true) a' w') a w := st_load rg6 h hV (o := o6_9) rfl rfl rfl rfl rfl (by omega) (by omega) rfl (by rw [sz6]; omega)
set_option maxRecDepth 20000 in
theorem s6_10 {w0 : World} {tm : Array Value} {listed : Array Bool} {a : Act} {w : World} {Q : Exit → Act → World → Prop} (h : Iv ops6 sp6 ds6 w0 tm listed a w)  (hr : ∀ e ∈ o6_10.after, Region.binds .any e = true → listed.getD e.on false = true) : wpOp Try.prog ops6 Q 10 (fun a' w' => Iv ops6 sp6 ds6 w0 tm (listed.setIfInBounds 10 true) a' w') a w := by
  have e0 : a.eval (.tmp 75) = .agg #[.int .i64 8, .int .i64 0, .int .i64 1, .int .i64 2] := h.val 8 (by rw [sz6]; omega) (hr ⟨8, .data⟩ (by simp [o6_10]) rfl)
  have e1 : a.eval (.tmp 76) = .agg #[.int .i64 0, .int .i64 0, .int .i64 0, .int .i64 0] := h.val 9 (by rw [sz6]; omega) (hr ⟨9, .data⟩ (by simp [o6_10]) rfl)
  refine st_row rg6 h (o := o6_10) (l := [(8, 0, 1, 2), (0, 0, 0, 0)]) (cells := #[.int .i64 8, .int .i64 0, .int .i64 1, .int .i64 2, .int .i64 0, .int .i64 0, .int .i64 0, .int .i64 0]) rfl rfl rfl rfl rfl rfl rfl (by omega) (by omega) (by rw [sz6]; omega) (fun ie z _ _ hsz hzz => ?_) rfl
  subst hzz
  simp only [hsz, List.map_toArray, List.map_cons, List.map_nil, e0, e1]
  kernel_rfl
set_option maxRecDepth 20000 in
theorem s6_11 {w0 : World} {tm : Array Value} {listed : Array Bool} {a : Act} {w : World} {Q : Exit → Act → World → Prop} (h : Iv ops6 sp6 ds6 w0 tm listed a w)   : wpOp Try.prog ops6 Q 11 (fun a' w' => Iv ops6 sp6 ds6 w0 tm (listed.setIfInBounds 11 true) a' w') a w := by
  refine wp_one (o := o6_11) rfl rfl ?_
  unfold o6_11
  go_simp
  go_at_call 20
  refine (skip_any 1 w).mono ?_
  rintro e w1 ⟨rfl, hb⟩
  exact h.put rg6.nd rg6.len rg6.lt (i := 11) (by rw [sz6]; omega) hb rfl
set_option maxRecDepth 20000 in
theorem s6_12 {w0 : World} {tm : Array Value} {listed : Array Bool} {a : Act} {w : World} {Q : Exit → Act → World → Prop} {rb : Nat → Nat} (h : Iv ops6 sp6 ds6 w0 tm listed a w) (hV : Vr rb w0 tm)  : wpOp Try.prog ops6 Q 12 (fun a' w' => Iv ops6 sp6 ds6 w0 tm (listed.setIfInBounds 12 true) a' w') a w := st_load rg6 h hV (o := o6_12) rfl rfl rfl rfl rfl (by omega) (by omega) rfl (by rw [sz6]; omega)
set_option maxRecDepth 20000 in
theorem s6_13 {w0 : World} {tm : Array Value} {listed : Array Bool} {a : Act} {w : World} {Q : Exit → Act → World → Prop} (h : Iv ops6 sp6 ds6 w0 tm listed a w)  (hr : ∀ e ∈ o6_13.after, Region.binds .any e = true → listed.getD e.on false = true) : wpOp Try.prog ops6 Q 13 (fun a' w' => Iv ops6 sp6 ds6 w0 tm (listed.setIfInBounds 13 true) a' w') a w := by
  have e0 : a.eval (.tmp 78) = .agg #[.int .i64 7, .int .i64 0, .int .i64 0, .int .i64 1] := h.val 11 (by rw [sz6]; omega) (hr ⟨11, .data⟩ (by simp [o6_13]) rfl)
  have e1 : a.eval (.tmp 79) = .agg #[.int .i64 0, .int .i64 0, .int .i64 0, .int .i64 0] := h.val 12 (by rw [sz6]; omega) (hr ⟨12, .data⟩ (by simp [o6_13]) rfl)
  refine st_row rg6 h (o := o6_13) (l := [(7, 0, 0, 1), (0, 0, 0, 0)]) (cells := #[.int .i64 7, .int .i64 0, .int .i64 0, .int .i64 1, .int .i64 0, .int .i64 0, .int .i64 0, .int .i64 0]) rfl rfl rfl rfl rfl rfl rfl (by omega) (by omega) (by rw [sz6]; omega) (fun ie z _ _ hsz hzz => ?_) rfl
  subst hzz
  simp only [hsz, List.map_toArray, List.map_cons, List.map_nil, e0, e1]
  kernel_rfl
set_option maxRecDepth 20000 in
theorem s6_14 {w0 : World} {tm : Array Value} {listed : Array Bool} {a : Act} {w : World} {Q : Exit → Act → World → Prop} {rb : Nat → Nat} (h : Iv ops6 sp6 ds6 w0 tm listed a w) (hV : Vr rb w0 tm)  : wpOp Try.prog ops6 Q 14 (fun a' w' => Iv ops6 sp6 ds6 w0 tm (listed.setIfInBounds 14 true) a' w') a w := st_load rg6 h hV (o := o6_14) rfl rfl rfl rfl rfl (by omega) (by omega) rfl (by rw [sz6]; omega)
set_option maxRecDepth 20000 in
theorem s6_15 {w0 : World} {tm : Array Value} {listed : Array Bool} {a : Act} {w : World} {Q : Exit → Act → World → Prop} {rb : Nat → Nat} (h : Iv ops6 sp6 ds6 w0 tm listed a w) (hV : Vr rb w0 tm)  : wpOp Try.prog ops6 Q 15 (fun a' w' => Iv ops6 sp6 ds6 w0 tm (listed.setIfInBounds 15 true) a' w') a w := st_load rg6 h hV (o := o6_15) rfl rfl rfl rfl rfl (by omega) (by omega) rfl (by rw [sz6]; omega)
set_option maxRecDepth 20000 in
theorem s6_16 {w0 : World} {tm : Array Value} {listed : Array Bool} {a : Act} {w : World} {Q : Exit → Act → World → Prop} (h : Iv ops6 sp6 ds6 w0 tm listed a w)  (hr : ∀ e ∈ o6_16.after, Region.binds .any e = true → listed.getD e.on false = true) : wpOp Try.prog ops6 Q 16 (fun a' w' => Iv ops6 sp6 ds6 w0 tm (listed.setIfInBounds 16 true) a' w') a w := by
  have e0 : a.eval (.tmp 81) = .agg #[.int .i64 9, .int .i64 0, .int .i64 0, .int .i64 0] := h.val 14 (by rw [sz6]; omega) (hr ⟨14, .data⟩ (by simp [o6_16]) rfl)
  have e1 : a.eval (.tmp 82) = .agg #[.int .i64 0, .int .i64 0, .int .i64 0, .int .i64 0] := h.val 15 (by rw [sz6]; omega) (hr ⟨15, .data⟩ (by simp [o6_16]) rfl)
  refine st_row rg6 h (o := o6_16) (l := [(9, 0, 0, 0), (0, 0, 0, 0)]) (cells := #[.int .i64 9, .int .i64 0, .int .i64 0, .int .i64 0, .int .i64 0, .int .i64 0, .int .i64 0, .int .i64 0]) rfl rfl rfl rfl rfl rfl rfl (by omega) (by omega) (by rw [sz6]; omega) (fun ie z _ _ hsz hzz => ?_) rfl
  subst hzz
  simp only [hsz, List.map_toArray, List.map_cons, List.map_nil, e0, e1]
  kernel_rfl
set_option maxRecDepth 20000 in
theorem s6_17 {w0 : World} {tm : Array Value} {listed : Array Bool} {a : Act} {w : World} {Q : Exit → Act → World → Prop} {rb : Nat → Nat} (h : Iv ops6 sp6 ds6 w0 tm listed a w) (hV : Vr rb w0 tm)  : wpOp Try.prog ops6 Q 17 (fun a' w' => Iv ops6 sp6 ds6 w0 tm (listed.setIfInBounds 17 true) a' w') a w := st_load rg6 h hV (o := o6_17) rfl rfl rfl rfl rfl (by omega) (by omega) rfl (by rw [sz6]; omega)
set_option maxRecDepth 20000 in
theorem s6_18 {w0 : World} {tm : Array Value} {listed : Array Bool} {a : Act} {w : World} {Q : Exit → Act → World → Prop} {rb : Nat → Nat} (h : Iv ops6 sp6 ds6 w0 tm listed a w) (hV : Vr rb w0 tm)  : wpOp Try.prog ops6 Q 18 (fun a' w' => Iv ops6 sp6 ds6 w0 tm (listed.setIfInBounds 18 true) a' w') a w := st_load rg6 h hV (o := o6_18) rfl rfl rfl rfl rfl (by omega) (by omega) rfl (by rw [sz6]; omega)
set_option maxRecDepth 20000 in
theorem s6_19 {w0 : World} {tm : Array Value} {listed : Array Bool} {a : Act} {w : World} {Q : Exit → Act → World → Prop} (h : Iv ops6 sp6 ds6 w0 tm listed a w)  (hr : ∀ e ∈ o6_19.after, Region.binds .any e = true → listed.getD e.on false = true) : wpOp Try.prog ops6 Q 19 (fun a' w' => Iv ops6 sp6 ds6 w0 tm (listed.setIfInBounds 19 true) a' w') a w := by
  have e0 : a.eval (.tmp 84) = .agg #[.int .i64 10, .int .i64 0, .int .i64 0, .int .i64 0] := h.val 17 (by rw [sz6]; omega) (hr ⟨17, .data⟩ (by simp [o6_19]) rfl)
  have e1 : a.eval (.tmp 85) = .agg #[.int .i64 0, .int .i64 0, .int .i64 0, .int .i64 0] := h.val 18 (by rw [sz6]; omega) (hr ⟨18, .data⟩ (by simp [o6_19]) rfl)
  refine st_row rg6 h (o := o6_19) (l := [(10, 0, 0, 0), (0, 0, 0, 0)]) (cells := #[.int .i64 10, .int .i64 0, .int .i64 0, .int .i64 0, .int .i64 0, .int .i64 0, .int .i64 0, .int .i64 0]) rfl rfl rfl rfl rfl rfl rfl (by omega) (by omega) (by rw [sz6]; omega) (fun ie z _ _ hsz hzz => ?_) rfl
  subst hzz
  simp only [hsz, List.map_toArray, List.map_cons, List.map_nil, e0, e1]
  kernel_rfl
set_option maxRecDepth 20000 in
theorem s6_20 {w0 : World} {tm : Array Value} {listed : Array Bool} {a : Act} {w : World} {Q : Exit → Act → World → Prop} {rb : Nat → Nat} (h : Iv ops6 sp6 ds6 w0 tm listed a w) (hV : Vr rb w0 tm)  : wpOp Try.prog ops6 Q 20 (fun a' w' => Iv ops6 sp6 ds6 w0 tm (listed.setIfInBounds 20 true) a' w') a w := st_load rg6 h hV (o := o6_20) rfl rfl rfl rfl rfl (by omega) (by omega) rfl (by rw [sz6]; omega)
set_option maxRecDepth 20000 in
theorem s6_21 {w0 : World} {tm : Array Value} {listed : Array Bool} {a : Act} {w : World} {Q : Exit → Act → World → Prop} {rb : Nat → Nat} (h : Iv ops6 sp6 ds6 w0 tm listed a w) (hV : Vr rb w0 tm)  : wpOp Try.prog ops6 Q 21 (fun a' w' => Iv ops6 sp6 ds6 w0 tm (listed.setIfInBounds 21 true) a' w') a w := st_load rg6 h hV (o := o6_21) rfl rfl rfl rfl rfl (by omega) (by omega) rfl (by rw [sz6]; omega)
set_option maxRecDepth 20000 in
theorem s6_22 {w0 : World} {tm : Array Value} {listed : Array Bool} {a : Act} {w : World} {Q : Exit → Act → World → Prop} {rb : Nat → Nat} (h : Iv ops6 sp6 ds6 w0 tm listed a w) (hV : Vr rb w0 tm)  : wpOp Try.prog ops6 Q 22 (fun a' w' => Iv ops6 sp6 ds6 w0 tm (listed.setIfInBounds 22 true) a' w') a w := st_load rg6 h hV (o := o6_22) rfl rfl rfl rfl rfl (by omega) (by omega) rfl (by rw [sz6]; omega)
set_option maxRecDepth 20000 in
theorem s6_23 {w0 : World} {tm : Array Value} {listed : Array Bool} {a : Act} {w : World} {Q : Exit → Act → World → Prop} {rb : Nat → Nat} (h : Iv ops6 sp6 ds6 w0 tm listed a w) (hV : Vr rb w0 tm)  : wpOp Try.prog ops6 Q 23 (fun a' w' => Iv ops6 sp6 ds6 w0 tm (listed.setIfInBounds 23 true) a' w') a w := st_load rg6 h hV (o := o6_23) rfl rfl rfl rfl rfl (by omega) (by omega) rfl (by rw [sz6]; omega)
set_option maxRecDepth 20000 in
theorem s6_24 {w0 : World} {tm : Array Value} {listed : Array Bool} {a : Act} {w : World} {Q : Exit → Act → World → Prop} {rb : Nat → Nat} (h : Iv ops6 sp6 ds6 w0 tm listed a w) (hV : Vr rb w0 tm)  : wpOp Try.prog ops6 Q 24 (fun a' w' => Iv ops6 sp6 ds6 w0 tm (listed.setIfInBounds 24 true) a' w') a w := st_load rg6 h hV (o := o6_24) rfl rfl rfl rfl rfl (by omega) (by omega) rfl (by rw [sz6]; omega)
set_option maxRecDepth 20000 in
theorem s6_25 {w0 : World} {tm : Array Value} {listed : Array Bool} {a : Act} {w : World} {Q : Exit → Act → World → Prop} (h : Iv ops6 sp6 ds6 w0 tm listed a w)  (hr : ∀ e ∈ o6_25.after, Region.binds .any e = true → listed.getD e.on false = true) : wpOp Try.prog ops6 Q 25 (fun a' w' => Iv ops6 sp6 ds6 w0 tm (listed.setIfInBounds 25 true) a' w') a w := by
  have e0 : a.eval (.tmp 87) = .agg #[.int .i64 9, .int .i64 0, .int .i64 0, .int .i64 0] := h.val 20 (by rw [sz6]; omega) (hr ⟨20, .data⟩ (by simp [o6_25]) rfl)
  have e1 : a.eval (.tmp 88) = .agg #[.int .i64 9, .int .i64 1, .int .i64 0, .int .i64 0] := h.val 21 (by rw [sz6]; omega) (hr ⟨21, .data⟩ (by simp [o6_25]) rfl)
  have e2 : a.eval (.tmp 89) = .agg #[.int .i64 10, .int .i64 0, .int .i64 0, .int .i64 0] := h.val 22 (by rw [sz6]; omega) (hr ⟨22, .data⟩ (by simp [o6_25]) rfl)
  have e3 : a.eval (.tmp 90) = .agg #[.int .i64 10, .int .i64 1, .int .i64 0, .int .i64 0] := h.val 23 (by rw [sz6]; omega) (hr ⟨23, .data⟩ (by simp [o6_25]) rfl)
  have e4 : a.eval (.tmp 91) = .agg #[.int .i64 0, .int .i64 0, .int .i64 0, .int .i64 0] := h.val 24 (by rw [sz6]; omega) (hr ⟨24, .data⟩ (by simp [o6_25]) rfl)
  refine st_row rg6 h (o := o6_25) (l := [(9, 0, 0, 0), (9, 1, 0, 0), (10, 0, 0, 0), (10, 1, 0, 0), (0, 0, 0, 0)]) (cells := #[.int .i64 9, .int .i64 0, .int .i64 0, .int .i64 0, .int .i64 9, .int .i64 1, .int .i64 0, .int .i64 0, .int .i64 10, .int .i64 0, .int .i64 0, .int .i64 0, .int .i64 10, .int .i64 1, .int .i64 0, .int .i64 0, .int .i64 0, .int .i64 0, .int .i64 0, .int .i64 0]) rfl rfl rfl rfl rfl rfl rfl (by omega) (by omega) (by rw [sz6]; omega) (fun ie z _ _ hsz hzz => ?_) rfl
  subst hzz
  simp only [hsz, List.map_toArray, List.map_cons, List.map_nil, e0, e1, e2, e3, e4]
  kernel_rfl
set_option maxRecDepth 20000 in
theorem s6_26 {w0 : World} {tm : Array Value} {listed : Array Bool} {a : Act} {w : World} {Q : Exit → Act → World → Prop} {rb : Nat → Nat} (h : Iv ops6 sp6 ds6 w0 tm listed a w) (hV : Vr rb w0 tm)  : wpOp Try.prog ops6 Q 26 (fun a' w' => Iv ops6 sp6 ds6 w0 tm (listed.setIfInBounds 26 true) a' w') a w := st_load rg6 h hV (o := o6_26) rfl rfl rfl rfl rfl (by omega) (by omega) rfl (by rw [sz6]; omega)
set_option maxRecDepth 20000 in
theorem s6_27 {w0 : World} {tm : Array Value} {listed : Array Bool} {a : Act} {w : World} {Q : Exit → Act → World → Prop} {rb : Nat → Nat} (h : Iv ops6 sp6 ds6 w0 tm listed a w) (hV : Vr rb w0 tm)  : wpOp Try.prog ops6 Q 27 (fun a' w' => Iv ops6 sp6 ds6 w0 tm (listed.setIfInBounds 27 true) a' w') a w := st_load rg6 h hV (o := o6_27) rfl rfl rfl rfl rfl (by omega) (by omega) rfl (by rw [sz6]; omega)
set_option maxRecDepth 20000 in
theorem s6_28 {w0 : World} {tm : Array Value} {listed : Array Bool} {a : Act} {w : World} {Q : Exit → Act → World → Prop} {rb : Nat → Nat} (h : Iv ops6 sp6 ds6 w0 tm listed a w) (hV : Vr rb w0 tm)  : wpOp Try.prog ops6 Q 28 (fun a' w' => Iv ops6 sp6 ds6 w0 tm (listed.setIfInBounds 28 true) a' w') a w := st_load rg6 h hV (o := o6_28) rfl rfl rfl rfl rfl (by omega) (by omega) rfl (by rw [sz6]; omega)
set_option maxRecDepth 20000 in
theorem s6_29 {w0 : World} {tm : Array Value} {listed : Array Bool} {a : Act} {w : World} {Q : Exit → Act → World → Prop} {rb : Nat → Nat} (h : Iv ops6 sp6 ds6 w0 tm listed a w) (hV : Vr rb w0 tm)  : wpOp Try.prog ops6 Q 29 (fun a' w' => Iv ops6 sp6 ds6 w0 tm (listed.setIfInBounds 29 true) a' w') a w := st_load rg6 h hV (o := o6_29) rfl rfl rfl rfl rfl (by omega) (by omega) rfl (by rw [sz6]; omega)
set_option maxRecDepth 20000 in
theorem s6_30 {w0 : World} {tm : Array Value} {listed : Array Bool} {a : Act} {w : World} {Q : Exit → Act → World → Prop} {rb : Nat → Nat} (h : Iv ops6 sp6 ds6 w0 tm listed a w) (hV : Vr rb w0 tm)  : wpOp Try.prog ops6 Q 30 (fun a' w' => Iv ops6 sp6 ds6 w0 tm (listed.setIfInBounds 30 true) a' w') a w := st_load rg6 h hV (o := o6_30) rfl rfl rfl rfl rfl (by omega) (by omega) rfl (by rw [sz6]; omega)
set_option maxRecDepth 20000 in
theorem s6_31 {w0 : World} {tm : Array Value} {listed : Array Bool} {a : Act} {w : World} {Q : Exit → Act → World → Prop} (h : Iv ops6 sp6 ds6 w0 tm listed a w)  (hr : ∀ e ∈ o6_31.after, Region.binds .any e = true → listed.getD e.on false = true) : wpOp Try.prog ops6 Q 31 (fun a' w' => Iv ops6 sp6 ds6 w0 tm (listed.setIfInBounds 31 true) a' w') a w := by
  have e0 : a.eval (.tmp 93) = .agg #[.int .i64 9, .int .i64 0, .int .i64 0, .int .i64 0] := h.val 26 (by rw [sz6]; omega) (hr ⟨26, .data⟩ (by simp [o6_31]) rfl)
  have e1 : a.eval (.tmp 94) = .agg #[.int .i64 9, .int .i64 0, .int .i64 0, .int .i64 0] := h.val 27 (by rw [sz6]; omega) (hr ⟨27, .data⟩ (by simp [o6_31]) rfl)
  have e2 : a.eval (.tmp 95) = .agg #[.int .i64 10, .int .i64 0, .int .i64 0, .int .i64 0] := h.val 28 (by rw [sz6]; omega) (hr ⟨28, .data⟩ (by simp [o6_31]) rfl)
  have e3 : a.eval (.tmp 96) = .agg #[.int .i64 10, .int .i64 0, .int .i64 0, .int .i64 0] := h.val 29 (by rw [sz6]; omega) (hr ⟨29, .data⟩ (by simp [o6_31]) rfl)
  have e4 : a.eval (.tmp 97) = .agg #[.int .i64 0, .int .i64 0, .int .i64 0, .int .i64 0] := h.val 30 (by rw [sz6]; omega) (hr ⟨30, .data⟩ (by simp [o6_31]) rfl)
  refine st_row rg6 h (o := o6_31) (l := [(9, 0, 0, 0), (9, 0, 0, 0), (10, 0, 0, 0), (10, 0, 0, 0), (0, 0, 0, 0)]) (cells := #[.int .i64 9, .int .i64 0, .int .i64 0, .int .i64 0, .int .i64 9, .int .i64 0, .int .i64 0, .int .i64 0, .int .i64 10, .int .i64 0, .int .i64 0, .int .i64 0, .int .i64 10, .int .i64 0, .int .i64 0, .int .i64 0, .int .i64 0, .int .i64 0, .int .i64 0, .int .i64 0]) rfl rfl rfl rfl rfl rfl rfl (by omega) (by omega) (by rw [sz6]; omega) (fun ie z _ _ hsz hzz => ?_) rfl
  subst hzz
  simp only [hsz, List.map_toArray, List.map_cons, List.map_nil, e0, e1, e2, e3, e4]
  kernel_rfl
set_option maxRecDepth 20000 in
theorem s6_32 {w0 : World} {tm : Array Value} {listed : Array Bool} {a : Act} {w : World} {Q : Exit → Act → World → Prop} {rb : Nat → Nat} (h : Iv ops6 sp6 ds6 w0 tm listed a w) (hV : Vr rb w0 tm)  : wpOp Try.prog ops6 Q 32 (fun a' w' => Iv ops6 sp6 ds6 w0 tm (listed.setIfInBounds 32 true) a' w') a w := st_load rg6 h hV (o := o6_32) rfl rfl rfl rfl rfl (by omega) (by omega) rfl (by rw [sz6]; omega)
set_option maxRecDepth 20000 in
theorem s6_33 {w0 : World} {tm : Array Value} {listed : Array Bool} {a : Act} {w : World} {Q : Exit → Act → World → Prop} {rb : Nat → Nat} (h : Iv ops6 sp6 ds6 w0 tm listed a w) (hV : Vr rb w0 tm)  : wpOp Try.prog ops6 Q 33 (fun a' w' => Iv ops6 sp6 ds6 w0 tm (listed.setIfInBounds 33 true) a' w') a w := st_load rg6 h hV (o := o6_33) rfl rfl rfl rfl rfl (by omega) (by omega) rfl (by rw [sz6]; omega)
set_option maxRecDepth 20000 in
theorem s6_34 {w0 : World} {tm : Array Value} {listed : Array Bool} {a : Act} {w : World} {Q : Exit → Act → World → Prop} {rb : Nat → Nat} (h : Iv ops6 sp6 ds6 w0 tm listed a w) (hV : Vr rb w0 tm)  : wpOp Try.prog ops6 Q 34 (fun a' w' => Iv ops6 sp6 ds6 w0 tm (listed.setIfInBounds 34 true) a' w') a w := st_load rg6 h hV (o := o6_34) rfl rfl rfl rfl rfl (by omega) (by omega) rfl (by rw [sz6]; omega)
set_option maxRecDepth 20000 in
theorem s6_35 {w0 : World} {tm : Array Value} {listed : Array Bool} {a : Act} {w : World} {Q : Exit → Act → World → Prop} {rb : Nat → Nat} (h : Iv ops6 sp6 ds6 w0 tm listed a w) (hV : Vr rb w0 tm)  : wpOp Try.prog ops6 Q 35 (fun a' w' => Iv ops6 sp6 ds6 w0 tm (listed.setIfInBounds 35 true) a' w') a w := st_load rg6 h hV (o := o6_35) rfl rfl rfl rfl rfl (by omega) (by omega) rfl (by rw [sz6]; omega)
set_option maxRecDepth 20000 in
theorem s6_36 {w0 : World} {tm : Array Value} {listed : Array Bool} {a : Act} {w : World} {Q : Exit → Act → World → Prop} (h : Iv ops6 sp6 ds6 w0 tm listed a w)  (hr : ∀ e ∈ o6_36.after, Region.binds .any e = true → listed.getD e.on false = true) : wpOp Try.prog ops6 Q 36 (fun a' w' => Iv ops6 sp6 ds6 w0 tm (listed.setIfInBounds 36 true) a' w') a w := by
  have e0 : a.eval (.tmp 99) = .agg #[.int .i64 9, .int .i64 0, .int .i64 0, .int .i64 0] := h.val 32 (by rw [sz6]; omega) (hr ⟨32, .data⟩ (by simp [o6_36]) rfl)
  have e1 : a.eval (.tmp 100) = .agg #[.int .i64 11, .int .i64 0, .int .i64 0, .int .i64 0] := h.val 33 (by rw [sz6]; omega) (hr ⟨33, .data⟩ (by simp [o6_36]) rfl)
  have e2 : a.eval (.tmp 101) = .agg #[.int .i64 10, .int .i64 0, .int .i64 0, .int .i64 0] := h.val 34 (by rw [sz6]; omega) (hr ⟨34, .data⟩ (by simp [o6_36]) rfl)
  have e3 : a.eval (.tmp 102) = .agg #[.int .i64 0, .int .i64 0, .int .i64 0, .int .i64 0] := h.val 35 (by rw [sz6]; omega) (hr ⟨35, .data⟩ (by simp [o6_36]) rfl)
  refine st_row rg6 h (o := o6_36) (l := [(9, 0, 0, 0), (11, 0, 0, 0), (10, 0, 0, 0), (0, 0, 0, 0)]) (cells := #[.int .i64 9, .int .i64 0, .int .i64 0, .int .i64 0, .int .i64 11, .int .i64 0, .int .i64 0, .int .i64 0, .int .i64 10, .int .i64 0, .int .i64 0, .int .i64 0, .int .i64 0, .int .i64 0, .int .i64 0, .int .i64 0]) rfl rfl rfl rfl rfl rfl rfl (by omega) (by omega) (by rw [sz6]; omega) (fun ie z _ _ hsz hzz => ?_) rfl
  subst hzz
  simp only [hsz, List.map_toArray, List.map_cons, List.map_nil, e0, e1, e2, e3]
  kernel_rfl
set_option maxRecDepth 20000 in
theorem s6_37 {w0 : World} {tm : Array Value} {listed : Array Bool} {a : Act} {w : World} {Q : Exit → Act → World → Prop} (h : Iv ops6 sp6 ds6 w0 tm listed a w)   : wpOp Try.prog ops6 Q 37 (fun a' w' => Iv ops6 sp6 ds6 w0 tm (listed.setIfInBounds 37 true) a' w') a w := by
  refine wp_one (o := o6_37) rfl rfl ?_
  unfold o6_37
  go_simp
  go_at_call 19
  refine (rep_any 1 2 w).mono ?_
  rintro e w1 ⟨rfl, hb⟩
  exact h.put rg6.nd rg6.len rg6.lt (i := 37) (by rw [sz6]; omega) hb rfl
set_option maxRecDepth 20000 in
theorem s6_38 {w0 : World} {tm : Array Value} {listed : Array Bool} {a : Act} {w : World} {Q : Exit → Act → World → Prop} {rb : Nat → Nat} (h : Iv ops6 sp6 ds6 w0 tm listed a w) (hV : Vr rb w0 tm)  : wpOp Try.prog ops6 Q 38 (fun a' w' => Iv ops6 sp6 ds6 w0 tm (listed.setIfInBounds 38 true) a' w') a w := st_load rg6 h hV (o := o6_38) rfl rfl rfl rfl rfl (by omega) (by omega) rfl (by rw [sz6]; omega)
set_option maxRecDepth 20000 in
theorem s6_39 {w0 : World} {tm : Array Value} {listed : Array Bool} {a : Act} {w : World} {Q : Exit → Act → World → Prop} {rb : Nat → Nat} (h : Iv ops6 sp6 ds6 w0 tm listed a w) (hV : Vr rb w0 tm)  : wpOp Try.prog ops6 Q 39 (fun a' w' => Iv ops6 sp6 ds6 w0 tm (listed.setIfInBounds 39 true) a' w') a w := st_load rg6 h hV (o := o6_39) rfl rfl rfl rfl rfl (by omega) (by omega) rfl (by rw [sz6]; omega)
set_option maxRecDepth 20000 in
theorem s6_40 {w0 : World} {tm : Array Value} {listed : Array Bool} {a : Act} {w : World} {Q : Exit → Act → World → Prop} (h : Iv ops6 sp6 ds6 w0 tm listed a w)  (hr : ∀ e ∈ o6_40.after, Region.binds .any e = true → listed.getD e.on false = true) : wpOp Try.prog ops6 Q 40 (fun a' w' => Iv ops6 sp6 ds6 w0 tm (listed.setIfInBounds 40 true) a' w') a w := by
  have e0 : a.eval (.tmp 104) = .agg #[.int .i64 8, .int .i64 0, .int .i64 1, .int .i64 2] := h.val 37 (by rw [sz6]; omega) (hr ⟨37, .data⟩ (by simp [o6_40]) rfl)
  have e1 : a.eval (.tmp 105) = .agg #[.int .i64 11, .int .i64 0, .int .i64 0, .int .i64 0] := h.val 38 (by rw [sz6]; omega) (hr ⟨38, .data⟩ (by simp [o6_40]) rfl)
  have e2 : a.eval (.tmp 106) = .agg #[.int .i64 0, .int .i64 0, .int .i64 0, .int .i64 0] := h.val 39 (by rw [sz6]; omega) (hr ⟨39, .data⟩ (by simp [o6_40]) rfl)
  refine st_row rg6 h (o := o6_40) (l := [(8, 0, 1, 2), (11, 0, 0, 0), (0, 0, 0, 0)]) (cells := #[.int .i64 8, .int .i64 0, .int .i64 1, .int .i64 2, .int .i64 11, .int .i64 0, .int .i64 0, .int .i64 0, .int .i64 0, .int .i64 0, .int .i64 0, .int .i64 0]) rfl rfl rfl rfl rfl rfl rfl (by omega) (by omega) (by rw [sz6]; omega) (fun ie z _ _ hsz hzz => ?_) rfl
  subst hzz
  simp only [hsz, List.map_toArray, List.map_cons, List.map_nil, e0, e1, e2]
  kernel_rfl
set_option maxRecDepth 20000 in
theorem s6_41 {w0 : World} {tm : Array Value} {listed : Array Bool} {a : Act} {w : World} {Q : Exit → Act → World → Prop} (h : Iv ops6 sp6 ds6 w0 tm listed a w)   : wpOp Try.prog ops6 Q 41 (fun a' w' => Iv ops6 sp6 ds6 w0 tm (listed.setIfInBounds 41 true) a' w') a w := by
  refine wp_one (o := o6_41) rfl rfl ?_
  unfold o6_41
  go_simp
  go_at_call 20
  refine (skip_any 1 w).mono ?_
  rintro e w1 ⟨rfl, hb⟩
  exact h.put rg6.nd rg6.len rg6.lt (i := 41) (by rw [sz6]; omega) hb rfl
set_option maxRecDepth 20000 in
theorem s6_42 {w0 : World} {tm : Array Value} {listed : Array Bool} {a : Act} {w : World} {Q : Exit → Act → World → Prop} {rb : Nat → Nat} (h : Iv ops6 sp6 ds6 w0 tm listed a w) (hV : Vr rb w0 tm)  : wpOp Try.prog ops6 Q 42 (fun a' w' => Iv ops6 sp6 ds6 w0 tm (listed.setIfInBounds 42 true) a' w') a w := st_load rg6 h hV (o := o6_42) rfl rfl rfl rfl rfl (by omega) (by omega) rfl (by rw [sz6]; omega)
set_option maxRecDepth 20000 in
theorem s6_43 {w0 : World} {tm : Array Value} {listed : Array Bool} {a : Act} {w : World} {Q : Exit → Act → World → Prop} {rb : Nat → Nat} (h : Iv ops6 sp6 ds6 w0 tm listed a w) (hV : Vr rb w0 tm)  : wpOp Try.prog ops6 Q 43 (fun a' w' => Iv ops6 sp6 ds6 w0 tm (listed.setIfInBounds 43 true) a' w') a w := st_load rg6 h hV (o := o6_43) rfl rfl rfl rfl rfl (by omega) (by omega) rfl (by rw [sz6]; omega)
set_option maxRecDepth 20000 in
theorem s6_44 {w0 : World} {tm : Array Value} {listed : Array Bool} {a : Act} {w : World} {Q : Exit → Act → World → Prop} (h : Iv ops6 sp6 ds6 w0 tm listed a w)  (hr : ∀ e ∈ o6_44.after, Region.binds .any e = true → listed.getD e.on false = true) : wpOp Try.prog ops6 Q 44 (fun a' w' => Iv ops6 sp6 ds6 w0 tm (listed.setIfInBounds 44 true) a' w') a w := by
  have e0 : a.eval (.tmp 108) = .agg #[.int .i64 7, .int .i64 0, .int .i64 0, .int .i64 1] := h.val 41 (by rw [sz6]; omega) (hr ⟨41, .data⟩ (by simp [o6_44]) rfl)
  have e1 : a.eval (.tmp 109) = .agg #[.int .i64 11, .int .i64 0, .int .i64 0, .int .i64 0] := h.val 42 (by rw [sz6]; omega) (hr ⟨42, .data⟩ (by simp [o6_44]) rfl)
  have e2 : a.eval (.tmp 110) = .agg #[.int .i64 0, .int .i64 0, .int .i64 0, .int .i64 0] := h.val 43 (by rw [sz6]; omega) (hr ⟨43, .data⟩ (by simp [o6_44]) rfl)
  refine st_row rg6 h (o := o6_44) (l := [(7, 0, 0, 1), (11, 0, 0, 0), (0, 0, 0, 0)]) (cells := #[.int .i64 7, .int .i64 0, .int .i64 0, .int .i64 1, .int .i64 11, .int .i64 0, .int .i64 0, .int .i64 0, .int .i64 0, .int .i64 0, .int .i64 0, .int .i64 0]) rfl rfl rfl rfl rfl rfl rfl (by omega) (by omega) (by rw [sz6]; omega) (fun ie z _ _ hsz hzz => ?_) rfl
  subst hzz
  simp only [hsz, List.map_toArray, List.map_cons, List.map_nil, e0, e1, e2]
  kernel_rfl
set_option maxRecDepth 20000 in
theorem s6_45 {w0 : World} {tm : Array Value} {listed : Array Bool} {a : Act} {w : World} {Q : Exit → Act → World → Prop} (h : Iv ops6 sp6 ds6 w0 tm listed a w)   : wpOp Try.prog ops6 Q 45 (fun a' w' => Iv ops6 sp6 ds6 w0 tm (listed.setIfInBounds 45 true) a' w') a w := by
  refine wp_one (o := o6_45) rfl rfl ?_
  unfold o6_45
  go_simp
  go_at_call 19
  refine (rep_any 1 2 w).mono ?_
  rintro e w1 ⟨rfl, hb⟩
  exact h.put rg6.nd rg6.len rg6.lt (i := 45) (by rw [sz6]; omega) hb rfl
set_option maxRecDepth 20000 in
theorem s6_46 {w0 : World} {tm : Array Value} {listed : Array Bool} {a : Act} {w : World} {Q : Exit → Act → World → Prop} {rb : Nat → Nat} (h : Iv ops6 sp6 ds6 w0 tm listed a w) (hV : Vr rb w0 tm)  : wpOp Try.prog ops6 Q 46 (fun a' w' => Iv ops6 sp6 ds6 w0 tm (listed.setIfInBounds 46 true) a' w') a w := st_load rg6 h hV (o := o6_46) rfl rfl rfl rfl rfl (by omega) (by omega) rfl (by rw [sz6]; omega)
set_option maxRecDepth 20000 in
theorem s6_47 {w0 : World} {tm : Array Value} {listed : Array Bool} {a : Act} {w : World} {Q : Exit → Act → World → Prop} {rb : Nat → Nat} (h : Iv ops6 sp6 ds6 w0 tm listed a w) (hV : Vr rb w0 tm)  : wpOp Try.prog ops6 Q 47 (fun a' w' => Iv ops6 sp6 ds6 w0 tm (listed.setIfInBounds 47 true) a' w') a w := st_load rg6 h hV (o := o6_47) rfl rfl rfl rfl rfl (by omega) (by omega) rfl (by rw [sz6]; omega)
set_option maxRecDepth 20000 in
theorem s6_48 {w0 : World} {tm : Array Value} {listed : Array Bool} {a : Act} {w : World} {Q : Exit → Act → World → Prop} {rb : Nat → Nat} (h : Iv ops6 sp6 ds6 w0 tm listed a w) (hV : Vr rb w0 tm)  : wpOp Try.prog ops6 Q 48 (fun a' w' => Iv ops6 sp6 ds6 w0 tm (listed.setIfInBounds 48 true) a' w') a w := st_load rg6 h hV (o := o6_48) rfl rfl rfl rfl rfl (by omega) (by omega) rfl (by rw [sz6]; omega)
set_option maxRecDepth 20000 in
theorem s6_49 {w0 : World} {tm : Array Value} {listed : Array Bool} {a : Act} {w : World} {Q : Exit → Act → World → Prop} (h : Iv ops6 sp6 ds6 w0 tm listed a w)  (hr : ∀ e ∈ o6_49.after, Region.binds .any e = true → listed.getD e.on false = true) : wpOp Try.prog ops6 Q 49 (fun a' w' => Iv ops6 sp6 ds6 w0 tm (listed.setIfInBounds 49 true) a' w') a w := by
  have e0 : a.eval (.tmp 112) = .agg #[.int .i64 8, .int .i64 0, .int .i64 1, .int .i64 2] := h.val 45 (by rw [sz6]; omega) (hr ⟨45, .data⟩ (by simp [o6_49]) rfl)
  have e1 : a.eval (.tmp 113) = .agg #[.int .i64 9, .int .i64 0, .int .i64 0, .int .i64 0] := h.val 46 (by rw [sz6]; omega) (hr ⟨46, .data⟩ (by simp [o6_49]) rfl)
  have e2 : a.eval (.tmp 114) = .agg #[.int .i64 10, .int .i64 0, .int .i64 0, .int .i64 0] := h.val 47 (by rw [sz6]; omega) (hr ⟨47, .data⟩ (by simp [o6_49]) rfl)
  have e3 : a.eval (.tmp 115) = .agg #[.int .i64 0, .int .i64 0, .int .i64 0, .int .i64 0] := h.val 48 (by rw [sz6]; omega) (hr ⟨48, .data⟩ (by simp [o6_49]) rfl)
  refine st_row rg6 h (o := o6_49) (l := [(8, 0, 1, 2), (9, 0, 0, 0), (10, 0, 0, 0), (0, 0, 0, 0)]) (cells := #[.int .i64 8, .int .i64 0, .int .i64 1, .int .i64 2, .int .i64 9, .int .i64 0, .int .i64 0, .int .i64 0, .int .i64 10, .int .i64 0, .int .i64 0, .int .i64 0, .int .i64 0, .int .i64 0, .int .i64 0, .int .i64 0]) rfl rfl rfl rfl rfl rfl rfl (by omega) (by omega) (by rw [sz6]; omega) (fun ie z _ _ hsz hzz => ?_) rfl
  subst hzz
  simp only [hsz, List.map_toArray, List.map_cons, List.map_nil, e0, e1, e2, e3]
  kernel_rfl
set_option maxRecDepth 20000 in
theorem s6_50 {w0 : World} {tm : Array Value} {listed : Array Bool} {a : Act} {w : World} {Q : Exit → Act → World → Prop} {rb : Nat → Nat} (h : Iv ops6 sp6 ds6 w0 tm listed a w) (hV : Vr rb w0 tm)  : wpOp Try.prog ops6 Q 50 (fun a' w' => Iv ops6 sp6 ds6 w0 tm (listed.setIfInBounds 50 true) a' w') a w := st_load rg6 h hV (o := o6_50) rfl rfl rfl rfl rfl (by omega) (by omega) rfl (by rw [sz6]; omega)
set_option maxRecDepth 20000 in
theorem s6_51 {w0 : World} {tm : Array Value} {listed : Array Bool} {a : Act} {w : World} {Q : Exit → Act → World → Prop} (h : Iv ops6 sp6 ds6 w0 tm listed a w)   : wpOp Try.prog ops6 Q 51 (fun a' w' => Iv ops6 sp6 ds6 w0 tm (listed.setIfInBounds 51 true) a' w') a w := by
  refine wp_one (o := o6_51) rfl rfl ?_
  unfold o6_51
  go_simp
  go_at_call 20
  refine (skip_any 1 w).mono ?_
  rintro e w1 ⟨rfl, hb⟩
  exact h.put rg6.nd rg6.len rg6.lt (i := 51) (by rw [sz6]; omega) hb rfl
set_option maxRecDepth 20000 in
theorem s6_52 {w0 : World} {tm : Array Value} {listed : Array Bool} {a : Act} {w : World} {Q : Exit → Act → World → Prop} {rb : Nat → Nat} (h : Iv ops6 sp6 ds6 w0 tm listed a w) (hV : Vr rb w0 tm)  : wpOp Try.prog ops6 Q 52 (fun a' w' => Iv ops6 sp6 ds6 w0 tm (listed.setIfInBounds 52 true) a' w') a w := st_load rg6 h hV (o := o6_52) rfl rfl rfl rfl rfl (by omega) (by omega) rfl (by rw [sz6]; omega)
set_option maxRecDepth 20000 in
theorem s6_53 {w0 : World} {tm : Array Value} {listed : Array Bool} {a : Act} {w : World} {Q : Exit → Act → World → Prop} {rb : Nat → Nat} (h : Iv ops6 sp6 ds6 w0 tm listed a w) (hV : Vr rb w0 tm)  : wpOp Try.prog ops6 Q 53 (fun a' w' => Iv ops6 sp6 ds6 w0 tm (listed.setIfInBounds 53 true) a' w') a w := st_load rg6 h hV (o := o6_53) rfl rfl rfl rfl rfl (by omega) (by omega) rfl (by rw [sz6]; omega)
set_option maxRecDepth 20000 in
theorem s6_54 {w0 : World} {tm : Array Value} {listed : Array Bool} {a : Act} {w : World} {Q : Exit → Act → World → Prop} {rb : Nat → Nat} (h : Iv ops6 sp6 ds6 w0 tm listed a w) (hV : Vr rb w0 tm)  : wpOp Try.prog ops6 Q 54 (fun a' w' => Iv ops6 sp6 ds6 w0 tm (listed.setIfInBounds 54 true) a' w') a w := st_load rg6 h hV (o := o6_54) rfl rfl rfl rfl rfl (by omega) (by omega) rfl (by rw [sz6]; omega)
set_option maxRecDepth 20000 in
theorem s6_55 {w0 : World} {tm : Array Value} {listed : Array Bool} {a : Act} {w : World} {Q : Exit → Act → World → Prop} (h : Iv ops6 sp6 ds6 w0 tm listed a w)  (hr : ∀ e ∈ o6_55.after, Region.binds .any e = true → listed.getD e.on false = true) : wpOp Try.prog ops6 Q 55 (fun a' w' => Iv ops6 sp6 ds6 w0 tm (listed.setIfInBounds 55 true) a' w') a w := by
  have e0 : a.eval (.tmp 117) = .agg #[.int .i64 9, .int .i64 0, .int .i64 0, .int .i64 0] := h.val 50 (by rw [sz6]; omega) (hr ⟨50, .data⟩ (by simp [o6_55]) rfl)
  have e1 : a.eval (.tmp 118) = .agg #[.int .i64 7, .int .i64 0, .int .i64 0, .int .i64 1] := h.val 51 (by rw [sz6]; omega) (hr ⟨51, .data⟩ (by simp [o6_55]) rfl)
  have e2 : a.eval (.tmp 119) = .agg #[.int .i64 10, .int .i64 0, .int .i64 0, .int .i64 0] := h.val 52 (by rw [sz6]; omega) (hr ⟨52, .data⟩ (by simp [o6_55]) rfl)
  have e3 : a.eval (.tmp 120) = .agg #[.int .i64 1, .int .i64 0, .int .i64 0, .int .i64 0] := h.val 53 (by rw [sz6]; omega) (hr ⟨53, .data⟩ (by simp [o6_55]) rfl)
  have e4 : a.eval (.tmp 121) = .agg #[.int .i64 0, .int .i64 0, .int .i64 0, .int .i64 0] := h.val 54 (by rw [sz6]; omega) (hr ⟨54, .data⟩ (by simp [o6_55]) rfl)
  refine st_row rg6 h (o := o6_55) (l := [(9, 0, 0, 0), (7, 0, 0, 1), (10, 0, 0, 0), (1, 0, 0, 0), (0, 0, 0, 0)]) (cells := #[.int .i64 9, .int .i64 0, .int .i64 0, .int .i64 0, .int .i64 7, .int .i64 0, .int .i64 0, .int .i64 1, .int .i64 10, .int .i64 0, .int .i64 0, .int .i64 0, .int .i64 1, .int .i64 0, .int .i64 0, .int .i64 0, .int .i64 0, .int .i64 0, .int .i64 0, .int .i64 0]) rfl rfl rfl rfl rfl rfl rfl (by omega) (by omega) (by rw [sz6]; omega) (fun ie z _ _ hsz hzz => ?_) rfl
  subst hzz
  simp only [hsz, List.map_toArray, List.map_cons, List.map_nil, e0, e1, e2, e3, e4]
  kernel_rfl
set_option maxRecDepth 20000 in
theorem s6_56 {w0 : World} {tm : Array Value} {listed : Array Bool} {a : Act} {w : World} {Q : Exit → Act → World → Prop} (h : Iv ops6 sp6 ds6 w0 tm listed a w)   : wpOp Try.prog ops6 Q 56 (fun a' w' => Iv ops6 sp6 ds6 w0 tm (listed.setIfInBounds 56 true) a' w') a w := by
  refine wp_one (o := o6_56) rfl rfl ?_
  unfold o6_56
  go_simp
  go_at_call 19
  refine (rep_any 2 2 w).mono ?_
  rintro e w1 ⟨rfl, hb⟩
  exact h.put rg6.nd rg6.len rg6.lt (i := 56) (by rw [sz6]; omega) hb rfl
set_option maxRecDepth 20000 in
theorem s6_57 {w0 : World} {tm : Array Value} {listed : Array Bool} {a : Act} {w : World} {Q : Exit → Act → World → Prop} {rb : Nat → Nat} (h : Iv ops6 sp6 ds6 w0 tm listed a w) (hV : Vr rb w0 tm)  : wpOp Try.prog ops6 Q 57 (fun a' w' => Iv ops6 sp6 ds6 w0 tm (listed.setIfInBounds 57 true) a' w') a w := st_load rg6 h hV (o := o6_57) rfl rfl rfl rfl rfl (by omega) (by omega) rfl (by rw [sz6]; omega)
set_option maxRecDepth 20000 in
theorem s6_58 {w0 : World} {tm : Array Value} {listed : Array Bool} {a : Act} {w : World} {Q : Exit → Act → World → Prop} (h : Iv ops6 sp6 ds6 w0 tm listed a w)   : wpOp Try.prog ops6 Q 58 (fun a' w' => Iv ops6 sp6 ds6 w0 tm (listed.setIfInBounds 58 true) a' w') a w := by
  refine wp_one (o := o6_58) rfl rfl ?_
  unfold o6_58
  go_simp
  go_at_call 20
  refine (skip_any 1 w).mono ?_
  rintro e w1 ⟨rfl, hb⟩
  exact h.put rg6.nd rg6.len rg6.lt (i := 58) (by rw [sz6]; omega) hb rfl
set_option maxRecDepth 20000 in
theorem s6_59 {w0 : World} {tm : Array Value} {listed : Array Bool} {a : Act} {w : World} {Q : Exit → Act → World → Prop} {rb : Nat → Nat} (h : Iv ops6 sp6 ds6 w0 tm listed a w) (hV : Vr rb w0 tm)  : wpOp Try.prog ops6 Q 59 (fun a' w' => Iv ops6 sp6 ds6 w0 tm (listed.setIfInBounds 59 true) a' w') a w := st_load rg6 h hV (o := o6_59) rfl rfl rfl rfl rfl (by omega) (by omega) rfl (by rw [sz6]; omega)
set_option maxRecDepth 20000 in
theorem s6_60 {w0 : World} {tm : Array Value} {listed : Array Bool} {a : Act} {w : World} {Q : Exit → Act → World → Prop} {rb : Nat → Nat} (h : Iv ops6 sp6 ds6 w0 tm listed a w) (hV : Vr rb w0 tm)  : wpOp Try.prog ops6 Q 60 (fun a' w' => Iv ops6 sp6 ds6 w0 tm (listed.setIfInBounds 60 true) a' w') a w := st_load rg6 h hV (o := o6_60) rfl rfl rfl rfl rfl (by omega) (by omega) rfl (by rw [sz6]; omega)
set_option maxRecDepth 20000 in
theorem s6_61 {w0 : World} {tm : Array Value} {listed : Array Bool} {a : Act} {w : World} {Q : Exit → Act → World → Prop} (h : Iv ops6 sp6 ds6 w0 tm listed a w)  (hr : ∀ e ∈ o6_61.after, Region.binds .any e = true → listed.getD e.on false = true) : wpOp Try.prog ops6 Q 61 (fun a' w' => Iv ops6 sp6 ds6 w0 tm (listed.setIfInBounds 61 true) a' w') a w := by
  have e0 : a.eval (.tmp 123) = .agg #[.int .i64 8, .int .i64 0, .int .i64 2, .int .i64 2] := h.val 56 (by rw [sz6]; omega) (hr ⟨56, .data⟩ (by simp [o6_61]) rfl)
  have e1 : a.eval (.tmp 124) = .agg #[.int .i64 1, .int .i64 0, .int .i64 0, .int .i64 0] := h.val 57 (by rw [sz6]; omega) (hr ⟨57, .data⟩ (by simp [o6_61]) rfl)
  have e2 : a.eval (.tmp 125) = .agg #[.int .i64 7, .int .i64 0, .int .i64 0, .int .i64 1] := h.val 58 (by rw [sz6]; omega) (hr ⟨58, .data⟩ (by simp [o6_61]) rfl)
  have e3 : a.eval (.tmp 126) = .agg #[.int .i64 1, .int .i64 0, .int .i64 0, .int .i64 0] := h.val 59 (by rw [sz6]; omega) (hr ⟨59, .data⟩ (by simp [o6_61]) rfl)
  have e4 : a.eval (.tmp 127) = .agg #[.int .i64 0, .int .i64 0, .int .i64 0, .int .i64 0] := h.val 60 (by rw [sz6]; omega) (hr ⟨60, .data⟩ (by simp [o6_61]) rfl)
  refine st_row rg6 h (o := o6_61) (l := [(8, 0, 2, 2), (1, 0, 0, 0), (7, 0, 0, 1), (1, 0, 0, 0), (0, 0, 0, 0)]) (cells := #[.int .i64 8, .int .i64 0, .int .i64 2, .int .i64 2, .int .i64 1, .int .i64 0, .int .i64 0, .int .i64 0, .int .i64 7, .int .i64 0, .int .i64 0, .int .i64 1, .int .i64 1, .int .i64 0, .int .i64 0, .int .i64 0, .int .i64 0, .int .i64 0, .int .i64 0, .int .i64 0]) rfl rfl rfl rfl rfl rfl rfl (by omega) (by omega) (by rw [sz6]; omega) (fun ie z _ _ hsz hzz => ?_) rfl
  subst hzz
  simp only [hsz, List.map_toArray, List.map_cons, List.map_nil, e0, e1, e2, e3, e4]
  kernel_rfl
set_option maxRecDepth 20000 in
theorem s6_62 {w0 : World} {tm : Array Value} {listed : Array Bool} {a : Act} {w : World} {Q : Exit → Act → World → Prop} (h : Iv ops6 sp6 ds6 w0 tm listed a w)   : wpOp Try.prog ops6 Q 62 (fun a' w' => Iv ops6 sp6 ds6 w0 tm (listed.setIfInBounds 62 true) a' w') a w := by
  refine wp_one (o := o6_62) rfl rfl ?_
  unfold o6_62
  go_simp
  go_at_call 19
  refine (rep_any 1 2 w).mono ?_
  rintro e w1 ⟨rfl, hb⟩
  exact h.put rg6.nd rg6.len rg6.lt (i := 62) (by rw [sz6]; omega) hb rfl
set_option maxRecDepth 20000 in
theorem s6_63 {w0 : World} {tm : Array Value} {listed : Array Bool} {a : Act} {w : World} {Q : Exit → Act → World → Prop} (h : Iv ops6 sp6 ds6 w0 tm listed a w)   : wpOp Try.prog ops6 Q 63 (fun a' w' => Iv ops6 sp6 ds6 w0 tm (listed.setIfInBounds 63 true) a' w') a w := by
  refine wp_one (o := o6_63) rfl rfl ?_
  unfold o6_63
  go_simp
  go_at_call 19
  refine (rep_any 1 2 w).mono ?_
  rintro e w1 ⟨rfl, hb⟩
  exact h.put rg6.nd rg6.len rg6.lt (i := 63) (by rw [sz6]; omega) hb rfl
set_option maxRecDepth 20000 in
theorem s6_64 {w0 : World} {tm : Array Value} {listed : Array Bool} {a : Act} {w : World} {Q : Exit → Act → World → Prop} {rb : Nat → Nat} (h : Iv ops6 sp6 ds6 w0 tm listed a w) (hV : Vr rb w0 tm)  : wpOp Try.prog ops6 Q 64 (fun a' w' => Iv ops6 sp6 ds6 w0 tm (listed.setIfInBounds 64 true) a' w') a w := st_load rg6 h hV (o := o6_64) rfl rfl rfl rfl rfl (by omega) (by omega) rfl (by rw [sz6]; omega)
set_option maxRecDepth 20000 in
theorem s6_65 {w0 : World} {tm : Array Value} {listed : Array Bool} {a : Act} {w : World} {Q : Exit → Act → World → Prop} {rb : Nat → Nat} (h : Iv ops6 sp6 ds6 w0 tm listed a w) (hV : Vr rb w0 tm)  : wpOp Try.prog ops6 Q 65 (fun a' w' => Iv ops6 sp6 ds6 w0 tm (listed.setIfInBounds 65 true) a' w') a w := st_load rg6 h hV (o := o6_65) rfl rfl rfl rfl rfl (by omega) (by omega) rfl (by rw [sz6]; omega)
set_option maxRecDepth 20000 in
theorem s6_66 {w0 : World} {tm : Array Value} {listed : Array Bool} {a : Act} {w : World} {Q : Exit → Act → World → Prop} (h : Iv ops6 sp6 ds6 w0 tm listed a w)  (hr : ∀ e ∈ o6_66.after, Region.binds .any e = true → listed.getD e.on false = true) : wpOp Try.prog ops6 Q 66 (fun a' w' => Iv ops6 sp6 ds6 w0 tm (listed.setIfInBounds 66 true) a' w') a w := by
  have e0 : a.eval (.tmp 129) = .agg #[.int .i64 8, .int .i64 0, .int .i64 1, .int .i64 2] := h.val 62 (by rw [sz6]; omega) (hr ⟨62, .data⟩ (by simp [o6_66]) rfl)
  have e1 : a.eval (.tmp 130) = .agg #[.int .i64 8, .int .i64 0, .int .i64 1, .int .i64 2] := h.val 63 (by rw [sz6]; omega) (hr ⟨63, .data⟩ (by simp [o6_66]) rfl)
  have e2 : a.eval (.tmp 131) = .agg #[.int .i64 1, .int .i64 0, .int .i64 0, .int .i64 0] := h.val 64 (by rw [sz6]; omega) (hr ⟨64, .data⟩ (by simp [o6_66]) rfl)
  have e3 : a.eval (.tmp 132) = .agg #[.int .i64 0, .int .i64 0, .int .i64 0, .int .i64 0] := h.val 65 (by rw [sz6]; omega) (hr ⟨65, .data⟩ (by simp [o6_66]) rfl)
  refine st_row rg6 h (o := o6_66) (l := [(8, 0, 1, 2), (8, 0, 1, 2), (1, 0, 0, 0), (0, 0, 0, 0)]) (cells := #[.int .i64 8, .int .i64 0, .int .i64 1, .int .i64 2, .int .i64 8, .int .i64 0, .int .i64 1, .int .i64 2, .int .i64 1, .int .i64 0, .int .i64 0, .int .i64 0, .int .i64 0, .int .i64 0, .int .i64 0, .int .i64 0]) rfl rfl rfl rfl rfl rfl rfl (by omega) (by omega) (by rw [sz6]; omega) (fun ie z _ _ hsz hzz => ?_) rfl
  subst hzz
  simp only [hsz, List.map_toArray, List.map_cons, List.map_nil, e0, e1, e2, e3]
  kernel_rfl
set_option maxRecDepth 20000 in
theorem s6_67 {w0 : World} {tm : Array Value} {listed : Array Bool} {a : Act} {w : World} {Q : Exit → Act → World → Prop} (h : Iv ops6 sp6 ds6 w0 tm listed a w)   : wpOp Try.prog ops6 Q 67 (fun a' w' => Iv ops6 sp6 ds6 w0 tm (listed.setIfInBounds 67 true) a' w') a w := by
  refine wp_one (o := o6_67) rfl rfl ?_
  unfold o6_67
  go_simp
  go_at_call 19
  refine (rep_any 5 2 w).mono ?_
  rintro e w1 ⟨rfl, hb⟩
  exact h.put rg6.nd rg6.len rg6.lt (i := 67) (by rw [sz6]; omega) hb rfl
set_option maxRecDepth 20000 in
theorem s6_68 {w0 : World} {tm : Array Value} {listed : Array Bool} {a : Act} {w : World} {Q : Exit → Act → World → Prop} (h : Iv ops6 sp6 ds6 w0 tm listed a w)   : wpOp Try.prog ops6 Q 68 (fun a' w' => Iv ops6 sp6 ds6 w0 tm (listed.setIfInBounds 68 true) a' w') a w := by
  refine wp_one (o := o6_68) rfl rfl ?_
  unfold o6_68
  go_simp
  go_at_call 19
  refine (rep_any 4 2 w).mono ?_
  rintro e w1 ⟨rfl, hb⟩
  exact h.put rg6.nd rg6.len rg6.lt (i := 68) (by rw [sz6]; omega) hb rfl
set_option maxRecDepth 20000 in
theorem s6_69 {w0 : World} {tm : Array Value} {listed : Array Bool} {a : Act} {w : World} {Q : Exit → Act → World → Prop} (h : Iv ops6 sp6 ds6 w0 tm listed a w)   : wpOp Try.prog ops6 Q 69 (fun a' w' => Iv ops6 sp6 ds6 w0 tm (listed.setIfInBounds 69 true) a' w') a w := by
  refine wp_one (o := o6_69) rfl rfl ?_
  unfold o6_69
  go_simp
  go_at_call 19
  refine (rep_any 3 2 w).mono ?_
  rintro e w1 ⟨rfl, hb⟩
  exact h.put rg6.nd rg6.len rg6.lt (i := 69) (by rw [sz6]; omega) hb rfl
set_option maxRecDepth 20000 in
theorem s6_70 {w0 : World} {tm : Array Value} {listed : Array Bool} {a : Act} {w : World} {Q : Exit → Act → World → Prop} {rb : Nat → Nat} (h : Iv ops6 sp6 ds6 w0 tm listed a w) (hV : Vr rb w0 tm)  : wpOp Try.prog ops6 Q 70 (fun a' w' => Iv ops6 sp6 ds6 w0 tm (listed.setIfInBounds 70 true) a' w') a w := st_load rg6 h hV (o := o6_70) rfl rfl rfl rfl rfl (by omega) (by omega) rfl (by rw [sz6]; omega)
set_option maxRecDepth 20000 in
theorem s6_71 {w0 : World} {tm : Array Value} {listed : Array Bool} {a : Act} {w : World} {Q : Exit → Act → World → Prop} {rb : Nat → Nat} (h : Iv ops6 sp6 ds6 w0 tm listed a w) (hV : Vr rb w0 tm)  : wpOp Try.prog ops6 Q 71 (fun a' w' => Iv ops6 sp6 ds6 w0 tm (listed.setIfInBounds 71 true) a' w') a w := st_load rg6 h hV (o := o6_71) rfl rfl rfl rfl rfl (by omega) (by omega) rfl (by rw [sz6]; omega)
set_option maxRecDepth 20000 in
theorem s6_72 {w0 : World} {tm : Array Value} {listed : Array Bool} {a : Act} {w : World} {Q : Exit → Act → World → Prop} {rb : Nat → Nat} (h : Iv ops6 sp6 ds6 w0 tm listed a w) (hV : Vr rb w0 tm)  : wpOp Try.prog ops6 Q 72 (fun a' w' => Iv ops6 sp6 ds6 w0 tm (listed.setIfInBounds 72 true) a' w') a w := st_load rg6 h hV (o := o6_72) rfl rfl rfl rfl rfl (by omega) (by omega) rfl (by rw [sz6]; omega)
set_option maxRecDepth 20000 in
theorem s6_73 {w0 : World} {tm : Array Value} {listed : Array Bool} {a : Act} {w : World} {Q : Exit → Act → World → Prop} {rb : Nat → Nat} (h : Iv ops6 sp6 ds6 w0 tm listed a w) (hV : Vr rb w0 tm)  : wpOp Try.prog ops6 Q 73 (fun a' w' => Iv ops6 sp6 ds6 w0 tm (listed.setIfInBounds 73 true) a' w') a w := st_load rg6 h hV (o := o6_73) rfl rfl rfl rfl rfl (by omega) (by omega) rfl (by rw [sz6]; omega)
set_option maxRecDepth 20000 in
theorem s6_74 {w0 : World} {tm : Array Value} {listed : Array Bool} {a : Act} {w : World} {Q : Exit → Act → World → Prop} (h : Iv ops6 sp6 ds6 w0 tm listed a w)  (hr : ∀ e ∈ o6_74.after, Region.binds .any e = true → listed.getD e.on false = true) : wpOp Try.prog ops6 Q 74 (fun a' w' => Iv ops6 sp6 ds6 w0 tm (listed.setIfInBounds 74 true) a' w') a w := by
  have e0 : a.eval (.tmp 134) = .agg #[.int .i64 8, .int .i64 0, .int .i64 5, .int .i64 2] := h.val 67 (by rw [sz6]; omega) (hr ⟨67, .data⟩ (by simp [o6_74]) rfl)
  have e1 : a.eval (.tmp 135) = .agg #[.int .i64 8, .int .i64 0, .int .i64 4, .int .i64 2] := h.val 68 (by rw [sz6]; omega) (hr ⟨68, .data⟩ (by simp [o6_74]) rfl)
  have e2 : a.eval (.tmp 136) = .agg #[.int .i64 8, .int .i64 0, .int .i64 3, .int .i64 2] := h.val 69 (by rw [sz6]; omega) (hr ⟨69, .data⟩ (by simp [o6_74]) rfl)
  have e3 : a.eval (.tmp 137) = .agg #[.int .i64 1, .int .i64 0, .int .i64 0, .int .i64 0] := h.val 70 (by rw [sz6]; omega) (hr ⟨70, .data⟩ (by simp [o6_74]) rfl)
  have e4 : a.eval (.tmp 138) = .agg #[.int .i64 1, .int .i64 0, .int .i64 0, .int .i64 0] := h.val 71 (by rw [sz6]; omega) (hr ⟨71, .data⟩ (by simp [o6_74]) rfl)
  have e5 : a.eval (.tmp 139) = .agg #[.int .i64 1, .int .i64 0, .int .i64 0, .int .i64 0] := h.val 72 (by rw [sz6]; omega) (hr ⟨72, .data⟩ (by simp [o6_74]) rfl)
  have e6 : a.eval (.tmp 140) = .agg #[.int .i64 0, .int .i64 0, .int .i64 0, .int .i64 0] := h.val 73 (by rw [sz6]; omega) (hr ⟨73, .data⟩ (by simp [o6_74]) rfl)
  refine st_row rg6 h (o := o6_74) (l := [(8, 0, 5, 2), (8, 0, 4, 2), (8, 0, 3, 2), (1, 0, 0, 0), (1, 0, 0, 0), (1, 0, 0, 0), (0, 0, 0, 0)]) (cells := #[.int .i64 8, .int .i64 0, .int .i64 5, .int .i64 2, .int .i64 8, .int .i64 0, .int .i64 4, .int .i64 2, .int .i64 8, .int .i64 0, .int .i64 3, .int .i64 2, .int .i64 1, .int .i64 0, .int .i64 0, .int .i64 0, .int .i64 1, .int .i64 0, .int .i64 0, .int .i64 0, .int .i64 1, .int .i64 0, .int .i64 0, .int .i64 0, .int .i64 0, .int .i64 0, .int .i64 0, .int .i64 0]) rfl rfl rfl rfl rfl rfl rfl (by omega) (by omega) (by rw [sz6]; omega) (fun ie z _ _ hsz hzz => ?_) rfl
  subst hzz
  simp only [hsz, List.map_toArray, List.map_cons, List.map_nil, e0, e1, e2, e3, e4, e5, e6]
  kernel_rfl
set_option maxRecDepth 20000 in
theorem s6_75 {w0 : World} {tm : Array Value} {listed : Array Bool} {a : Act} {w : World} {Q : Exit → Act → World → Prop} (h : Iv ops6 sp6 ds6 w0 tm listed a w)   : wpOp Try.prog ops6 Q 75 (fun a' w' => Iv ops6 sp6 ds6 w0 tm (listed.setIfInBounds 75 true) a' w') a w := by
  refine wp_one (o := o6_75) rfl rfl ?_
  unfold o6_75
  go_simp
  go_at_call 20
  refine (skip_any 2 w).mono ?_
  rintro e w1 ⟨rfl, hb⟩
  exact h.put rg6.nd rg6.len rg6.lt (i := 75) (by rw [sz6]; omega) hb rfl
set_option maxRecDepth 20000 in
theorem s6_76 {w0 : World} {tm : Array Value} {listed : Array Bool} {a : Act} {w : World} {Q : Exit → Act → World → Prop} {rb : Nat → Nat} (h : Iv ops6 sp6 ds6 w0 tm listed a w) (hV : Vr rb w0 tm)  : wpOp Try.prog ops6 Q 76 (fun a' w' => Iv ops6 sp6 ds6 w0 tm (listed.setIfInBounds 76 true) a' w') a w := st_load rg6 h hV (o := o6_76) rfl rfl rfl rfl rfl (by omega) (by omega) rfl (by rw [sz6]; omega)
set_option maxRecDepth 20000 in
theorem s6_77 {w0 : World} {tm : Array Value} {listed : Array Bool} {a : Act} {w : World} {Q : Exit → Act → World → Prop} (h : Iv ops6 sp6 ds6 w0 tm listed a w)   : wpOp Try.prog ops6 Q 77 (fun a' w' => Iv ops6 sp6 ds6 w0 tm (listed.setIfInBounds 77 true) a' w') a w := by
  refine wp_one (o := o6_77) rfl rfl ?_
  unfold o6_77
  go_simp
  go_at_call 19
  refine (rep_any 2 2 w).mono ?_
  rintro e w1 ⟨rfl, hb⟩
  exact h.put rg6.nd rg6.len rg6.lt (i := 77) (by rw [sz6]; omega) hb rfl
set_option maxRecDepth 20000 in
theorem s6_78 {w0 : World} {tm : Array Value} {listed : Array Bool} {a : Act} {w : World} {Q : Exit → Act → World → Prop} {rb : Nat → Nat} (h : Iv ops6 sp6 ds6 w0 tm listed a w) (hV : Vr rb w0 tm)  : wpOp Try.prog ops6 Q 78 (fun a' w' => Iv ops6 sp6 ds6 w0 tm (listed.setIfInBounds 78 true) a' w') a w := st_load rg6 h hV (o := o6_78) rfl rfl rfl rfl rfl (by omega) (by omega) rfl (by rw [sz6]; omega)
set_option maxRecDepth 20000 in
theorem s6_79 {w0 : World} {tm : Array Value} {listed : Array Bool} {a : Act} {w : World} {Q : Exit → Act → World → Prop} {rb : Nat → Nat} (h : Iv ops6 sp6 ds6 w0 tm listed a w) (hV : Vr rb w0 tm)  : wpOp Try.prog ops6 Q 79 (fun a' w' => Iv ops6 sp6 ds6 w0 tm (listed.setIfInBounds 79 true) a' w') a w := st_load rg6 h hV (o := o6_79) rfl rfl rfl rfl rfl (by omega) (by omega) rfl (by rw [sz6]; omega)
set_option maxRecDepth 20000 in
theorem s6_80 {w0 : World} {tm : Array Value} {listed : Array Bool} {a : Act} {w : World} {Q : Exit → Act → World → Prop} {rb : Nat → Nat} (h : Iv ops6 sp6 ds6 w0 tm listed a w) (hV : Vr rb w0 tm)  : wpOp Try.prog ops6 Q 80 (fun a' w' => Iv ops6 sp6 ds6 w0 tm (listed.setIfInBounds 80 true) a' w') a w := st_load rg6 h hV (o := o6_80) rfl rfl rfl rfl rfl (by omega) (by omega) rfl (by rw [sz6]; omega)
set_option maxRecDepth 20000 in
theorem s6_81 {w0 : World} {tm : Array Value} {listed : Array Bool} {a : Act} {w : World} {Q : Exit → Act → World → Prop} (h : Iv ops6 sp6 ds6 w0 tm listed a w)  (hr : ∀ e ∈ o6_81.after, Region.binds .any e = true → listed.getD e.on false = true) : wpOp Try.prog ops6 Q 81 (fun a' w' => Iv ops6 sp6 ds6 w0 tm (listed.setIfInBounds 81 true) a' w') a w := by
  have e0 : a.eval (.tmp 142) = .agg #[.int .i64 7, .int .i64 0, .int .i64 0, .int .i64 2] := h.val 75 (by rw [sz6]; omega) (hr ⟨75, .data⟩ (by simp [o6_81]) rfl)
  have e1 : a.eval (.tmp 143) = .agg #[.int .i64 1, .int .i64 0, .int .i64 0, .int .i64 0] := h.val 76 (by rw [sz6]; omega) (hr ⟨76, .data⟩ (by simp [o6_81]) rfl)
  have e2 : a.eval (.tmp 144) = .agg #[.int .i64 8, .int .i64 0, .int .i64 2, .int .i64 2] := h.val 77 (by rw [sz6]; omega) (hr ⟨77, .data⟩ (by simp [o6_81]) rfl)
  have e3 : a.eval (.tmp 145) = .agg #[.int .i64 1, .int .i64 0, .int .i64 0, .int .i64 0] := h.val 78 (by rw [sz6]; omega) (hr ⟨78, .data⟩ (by simp [o6_81]) rfl)
  have e4 : a.eval (.tmp 146) = .agg #[.int .i64 1, .int .i64 0, .int .i64 0, .int .i64 0] := h.val 79 (by rw [sz6]; omega) (hr ⟨79, .data⟩ (by simp [o6_81]) rfl)
  have e5 : a.eval (.tmp 147) = .agg #[.int .i64 0, .int .i64 0, .int .i64 0, .int .i64 0] := h.val 80 (by rw [sz6]; omega) (hr ⟨80, .data⟩ (by simp [o6_81]) rfl)
  refine st_row rg6 h (o := o6_81) (l := [(7, 0, 0, 2), (1, 0, 0, 0), (8, 0, 2, 2), (1, 0, 0, 0), (1, 0, 0, 0), (0, 0, 0, 0)]) (cells := #[.int .i64 7, .int .i64 0, .int .i64 0, .int .i64 2, .int .i64 1, .int .i64 0, .int .i64 0, .int .i64 0, .int .i64 8, .int .i64 0, .int .i64 2, .int .i64 2, .int .i64 1, .int .i64 0, .int .i64 0, .int .i64 0, .int .i64 1, .int .i64 0, .int .i64 0, .int .i64 0, .int .i64 0, .int .i64 0, .int .i64 0, .int .i64 0]) rfl rfl rfl rfl rfl rfl rfl (by omega) (by omega) (by rw [sz6]; omega) (fun ie z _ _ hsz hzz => ?_) rfl
  subst hzz
  simp only [hsz, List.map_toArray, List.map_cons, List.map_nil, e0, e1, e2, e3, e4, e5]
  kernel_rfl
set_option maxRecDepth 20000 in
theorem s6_82 {w0 : World} {tm : Array Value} {listed : Array Bool} {a : Act} {w : World} {Q : Exit → Act → World → Prop} {rb : Nat → Nat} (h : Iv ops6 sp6 ds6 w0 tm listed a w) (hV : Vr rb w0 tm)  : wpOp Try.prog ops6 Q 82 (fun a' w' => Iv ops6 sp6 ds6 w0 tm (listed.setIfInBounds 82 true) a' w') a w := st_load rg6 h hV (o := o6_82) rfl rfl rfl rfl rfl (by omega) (by omega) rfl (by rw [sz6]; omega)
set_option maxRecDepth 20000 in
theorem s6_83 {w0 : World} {tm : Array Value} {listed : Array Bool} {a : Act} {w : World} {Q : Exit → Act → World → Prop} {rb : Nat → Nat} (h : Iv ops6 sp6 ds6 w0 tm listed a w) (hV : Vr rb w0 tm)  : wpOp Try.prog ops6 Q 83 (fun a' w' => Iv ops6 sp6 ds6 w0 tm (listed.setIfInBounds 83 true) a' w') a w := st_load rg6 h hV (o := o6_83) rfl rfl rfl rfl rfl (by omega) (by omega) rfl (by rw [sz6]; omega)
set_option maxRecDepth 20000 in
theorem s6_84 {w0 : World} {tm : Array Value} {listed : Array Bool} {a : Act} {w : World} {Q : Exit → Act → World → Prop} (h : Iv ops6 sp6 ds6 w0 tm listed a w)   : wpOp Try.prog ops6 Q 84 (fun a' w' => Iv ops6 sp6 ds6 w0 tm (listed.setIfInBounds 84 true) a' w') a w := by
  refine wp_one (o := o6_84) rfl rfl ?_
  unfold o6_84
  go_simp
  exact h.put rg6.nd rg6.len rg6.lt (i := 84) (by rw [sz6]; omega) (Below.refl _ _) rfl
set_option maxRecDepth 20000 in
theorem s6_85 {w0 : World} {tm : Array Value} {listed : Array Bool} {a : Act} {w : World} {Q : Exit → Act → World → Prop} (h : Iv ops6 sp6 ds6 w0 tm listed a w)   : wpOp Try.prog ops6 Q 85 (fun a' w' => Iv ops6 sp6 ds6 w0 tm (listed.setIfInBounds 85 true) a' w') a w := by
  refine wp_one (o := o6_85) rfl rfl ?_
  unfold o6_85
  go_simp
  exact h.put rg6.nd rg6.len rg6.lt (i := 85) (by rw [sz6]; omega) (Below.refl _ _) rfl
set_option maxRecDepth 20000 in
theorem s6_86 {w0 : World} {tm : Array Value} {listed : Array Bool} {a : Act} {w : World} {Q : Exit → Act → World → Prop} {rb : Nat → Nat} (h : Iv ops6 sp6 ds6 w0 tm listed a w) (hV : Vr rb w0 tm)  : wpOp Try.prog ops6 Q 86 (fun a' w' => Iv ops6 sp6 ds6 w0 tm (listed.setIfInBounds 86 true) a' w') a w := st_load rg6 h hV (o := o6_86) rfl rfl rfl rfl rfl (by omega) (by omega) rfl (by rw [sz6]; omega)
set_option maxRecDepth 20000 in
theorem s6_87 {w0 : World} {tm : Array Value} {listed : Array Bool} {a : Act} {w : World} {Q : Exit → Act → World → Prop} {rb : Nat → Nat} (h : Iv ops6 sp6 ds6 w0 tm listed a w) (hV : Vr rb w0 tm)  : wpOp Try.prog ops6 Q 87 (fun a' w' => Iv ops6 sp6 ds6 w0 tm (listed.setIfInBounds 87 true) a' w') a w := st_load rg6 h hV (o := o6_87) rfl rfl rfl rfl rfl (by omega) (by omega) rfl (by rw [sz6]; omega)
set_option maxRecDepth 20000 in
theorem s6_88 {w0 : World} {tm : Array Value} {listed : Array Bool} {a : Act} {w : World} {Q : Exit → Act → World → Prop} {rb : Nat → Nat} (h : Iv ops6 sp6 ds6 w0 tm listed a w) (hV : Vr rb w0 tm)  : wpOp Try.prog ops6 Q 88 (fun a' w' => Iv ops6 sp6 ds6 w0 tm (listed.setIfInBounds 88 true) a' w') a w := st_load rg6 h hV (o := o6_88) rfl rfl rfl rfl rfl (by omega) (by omega) rfl (by rw [sz6]; omega)
set_option maxRecDepth 20000 in
theorem s6_89 {w0 : World} {tm : Array Value} {listed : Array Bool} {a : Act} {w : World} {Q : Exit → Act → World → Prop} (h : Iv ops6 sp6 ds6 w0 tm listed a w)  (hr : ∀ e ∈ o6_89.after, Region.binds .any e = true → listed.getD e.on false = true) : wpOp Try.prog ops6 Q 89 (fun a' w' => Iv ops6 sp6 ds6 w0 tm (listed.setIfInBounds 89 true) a' w') a w := by
  have e0 : a.eval (.tmp 149) = .agg #[.int .i64 9, .int .i64 0, .int .i64 0, .int .i64 0] := h.val 82 (by rw [sz6]; omega) (hr ⟨82, .data⟩ (by simp [o6_89]) rfl)
  have e1 : a.eval (.tmp 150) = .agg #[.int .i64 9, .int .i64 1, .int .i64 0, .int .i64 0] := h.val 83 (by rw [sz6]; omega) (hr ⟨83, .data⟩ (by simp [o6_89]) rfl)
  have e2 : a.eval (.tmp 151) = .agg #[.int .i64 9, .int .i64 2, .int .i64 0, .int .i64 0] := h.val 84 (by rw [sz6]; omega) (hr ⟨84, .data⟩ (by simp [o6_89]) rfl)
  have e3 : a.eval (.tmp 152) = .agg #[.int .i64 10, .int .i64 2, .int .i64 0, .int .i64 0] := h.val 85 (by rw [sz6]; omega) (hr ⟨85, .data⟩ (by simp [o6_89]) rfl)
  have e4 : a.eval (.tmp 153) = .agg #[.int .i64 10, .int .i64 1, .int .i64 0, .int .i64 0] := h.val 86 (by rw [sz6]; omega) (hr ⟨86, .data⟩ (by simp [o6_89]) rfl)
  have e5 : a.eval (.tmp 154) = .agg #[.int .i64 10, .int .i64 0, .int .i64 0, .int .i64 0] := h.val 87 (by rw [sz6]; omega) (hr ⟨87, .data⟩ (by simp [o6_89]) rfl)
  have e6 : a.eval (.tmp 155) = .agg #[.int .i64 0, .int .i64 0, .int .i64 0, .int .i64 0] := h.val 88 (by rw [sz6]; omega) (hr ⟨88, .data⟩ (by simp [o6_89]) rfl)
  refine st_row rg6 h (o := o6_89) (l := [(9, 0, 0, 0), (9, 1, 0, 0), (9, 2, 0, 0), (10, 2, 0, 0), (10, 1, 0, 0), (10, 0, 0, 0), (0, 0, 0, 0)]) (cells := #[.int .i64 9, .int .i64 0, .int .i64 0, .int .i64 0, .int .i64 9, .int .i64 1, .int .i64 0, .int .i64 0, .int .i64 9, .int .i64 2, .int .i64 0, .int .i64 0, .int .i64 10, .int .i64 2, .int .i64 0, .int .i64 0, .int .i64 10, .int .i64 1, .int .i64 0, .int .i64 0, .int .i64 10, .int .i64 0, .int .i64 0, .int .i64 0, .int .i64 0, .int .i64 0, .int .i64 0, .int .i64 0]) rfl rfl rfl rfl rfl rfl rfl (by omega) (by omega) (by rw [sz6]; omega) (fun ie z _ _ hsz hzz => ?_) rfl
  subst hzz
  simp only [hsz, List.map_toArray, List.map_cons, List.map_nil, e0, e1, e2, e3, e4, e5, e6]
  kernel_rfl
theorem fill6_90 (b1 b2 b3 b4 b5 b6 b7 b8 b9 b10 b11 b12 b13 b14 b15 b16 b17 b18 b19 : Nat) : Instr.fill (fun i => some (i * 1, 1)) ((Array.range (20 * 1)).map ((Value.slice none 0 0).cells[· % (Value.slice none 0 0).cells.size]!)) [(0, Value.slice none 0 0), (1, Value.slice (some ⟨b1, 0, none⟩) 1 1), (2, Value.slice (some ⟨b2, 0, none⟩) 2 2), (3, Value.slice (some ⟨b3, 0, none⟩) 2 2), (4, Value.slice (some ⟨b4, 0, none⟩) 2 2), (5, Value.slice (some ⟨b5, 0, none⟩) 2 2), (6, Value.slice (some ⟨b6, 0, none⟩) 2 2), (7, Value.slice (some ⟨b7, 0, none⟩) 2 2), (8, Value.slice (some ⟨b8, 0, none⟩) 5 5), (9, Value.slice (some ⟨b9, 0, none⟩) 5 5), (10, Value.slice (some ⟨b10, 0, none⟩) 4 4), (11, Value.slice (some ⟨b11, 0, none⟩) 3 3), (12, Value.slice (some ⟨b12, 0, none⟩) 3 3), (13, Value.slice (some ⟨b13, 0, none⟩) 4 4), (14, Value.slice (some ⟨b14, 0, none⟩) 5 5), (15, Value.slice (some ⟨b15, 0, none⟩) 5 5), (16, Value.slice (some ⟨b16, 0, none⟩) 4 4), (17, Value.slice (some ⟨b17, 0, none⟩) 7 7), (18, Value.slice (some ⟨b18, 0, none⟩) 6 6), (19, Value.slice (some ⟨b19, 0, none⟩) 7 7)] = some #[Value.slice none 0 0, Value.slice (some ⟨b1, 0, none⟩) 1 1, Value.slice (some ⟨b2, 0, none⟩) 2 2, Value.slice (some ⟨b3, 0, none⟩) 2 2, Value.slice (some ⟨b4, 0, none⟩) 2 2, Value.slice (some ⟨b5, 0, none⟩) 2 2, Value.slice (some ⟨b6, 0, none⟩) 2 2, Value.slice (some ⟨b7, 0, none⟩) 2 2, Value.slice (some ⟨b8, 0, none⟩) 5 5, Value.slice (some ⟨b9, 0, none⟩) 5 5, Value.slice (some ⟨b10, 0, none⟩) 4 4, Value.slice (some ⟨b11, 0, none⟩) 3 3, Value.slice (some ⟨b12, 0, none⟩) 3 3, Value.slice (some ⟨b13, 0, none⟩) 4 4, Value.slice (some ⟨b14, 0, none⟩) 5 5, Value.slice (some ⟨b15, 0, none⟩) 5 5, Value.slice (some ⟨b16, 0, none⟩) 4 4, Value.slice (some ⟨b17, 0, none⟩) 7 7, Value.slice (some ⟨b18, 0, none⟩) 6 6, Value.slice (some ⟨b19, 0, none⟩) 7 7] := by kernel_rfl
set_option maxRecDepth 20000 in
theorem s6_90 {w0 : World} {tm : Array Value} {listed : Array Bool} {a : Act} {w : World} {Q : Exit → Act → World → Prop} (h : Iv ops6 sp6 ds6 w0 tm listed a w)  (hr : ∀ e ∈ o6_90.after, Region.binds .any e = true → listed.getD e.on false = true) : wpOp Try.prog ops6 Q 90 (fun a' w' => Iv ops6 sp6 ds6 w0 tm (listed.setIfInBounds 90 true) a' w') a w := by
  obtain ⟨b1, e1, r1⟩ := h.val 1 (by rw [sz6]; omega) (hr ⟨1, .data⟩ (by simp [o6_90]) rfl)
  have e1 : a.eval (.tmp 68) = .slice (some ⟨b1, 0, none⟩) 1 1 := e1
  obtain ⟨b2, e2, r2⟩ := h.val 4 (by rw [sz6]; omega) (hr ⟨4, .data⟩ (by simp [o6_90]) rfl)
  have e2 : a.eval (.tmp 71) = .slice (some ⟨b2, 0, none⟩) 2 2 := e2
  obtain ⟨b3, e3, r3⟩ := h.val 7 (by rw [sz6]; omega) (hr ⟨7, .data⟩ (by simp [o6_90]) rfl)
  have e3 : a.eval (.tmp 74) = .slice (some ⟨b3, 0, none⟩) 2 2 := e3
  obtain ⟨b4, e4, r4⟩ := h.val 10 (by rw [sz6]; omega) (hr ⟨10, .data⟩ (by simp [o6_90]) rfl)
  have e4 : a.eval (.tmp 77) = .slice (some ⟨b4, 0, none⟩) 2 2 := e4
  obtain ⟨b5, e5, r5⟩ := h.val 13 (by rw [sz6]; omega) (hr ⟨13, .data⟩ (by simp [o6_90]) rfl)
  have e5 : a.eval (.tmp 80) = .slice (some ⟨b5, 0, none⟩) 2 2 := e5
  obtain ⟨b6, e6, r6⟩ := h.val 16 (by rw [sz6]; omega) (hr ⟨16, .data⟩ (by simp [o6_90]) rfl)
  have e6 : a.eval (.tmp 83) = .slice (some ⟨b6, 0, none⟩) 2 2 := e6
  obtain ⟨b7, e7, r7⟩ := h.val 19 (by rw [sz6]; omega) (hr ⟨19, .data⟩ (by simp [o6_90]) rfl)
  have e7 : a.eval (.tmp 86) = .slice (some ⟨b7, 0, none⟩) 2 2 := e7
  obtain ⟨b8, e8, r8⟩ := h.val 25 (by rw [sz6]; omega) (hr ⟨25, .data⟩ (by simp [o6_90]) rfl)
  have e8 : a.eval (.tmp 92) = .slice (some ⟨b8, 0, none⟩) 5 5 := e8
  obtain ⟨b9, e9, r9⟩ := h.val 31 (by rw [sz6]; omega) (hr ⟨31, .data⟩ (by simp [o6_90]) rfl)
  have e9 : a.eval (.tmp 98) = .slice (some ⟨b9, 0, none⟩) 5 5 := e9
  obtain ⟨b10, e10, r10⟩ := h.val 36 (by rw [sz6]; omega) (hr ⟨36, .data⟩ (by simp [o6_90]) rfl)
  have e10 : a.eval (.tmp 103) = .slice (some ⟨b10, 0, none⟩) 4 4 := e10
  obtain ⟨b11, e11, r11⟩ := h.val 40 (by rw [sz6]; omega) (hr ⟨40, .data⟩ (by simp [o6_90]) rfl)
  have e11 : a.eval (.tmp 107) = .slice (some ⟨b11, 0, none⟩) 3 3 := e11
  obtain ⟨b12, e12, r12⟩ := h.val 44 (by rw [sz6]; omega) (hr ⟨44, .data⟩ (by simp [o6_90]) rfl)
  have e12 : a.eval (.tmp 111) = .slice (some ⟨b12, 0, none⟩) 3 3 := e12
  obtain ⟨b13, e13, r13⟩ := h.val 49 (by rw [sz6]; omega) (hr ⟨49, .data⟩ (by simp [o6_90]) rfl)
  have e13 : a.eval (.tmp 116) = .slice (some ⟨b13, 0, none⟩) 4 4 := e13
  obtain ⟨b14, e14, r14⟩ := h.val 55 (by rw [sz6]; omega) (hr ⟨55, .data⟩ (by simp [o6_90]) rfl)
  have e14 : a.eval (.tmp 122) = .slice (some ⟨b14, 0, none⟩) 5 5 := e14
  obtain ⟨b15, e15, r15⟩ := h.val 61 (by rw [sz6]; omega) (hr ⟨61, .data⟩ (by simp [o6_90]) rfl)
  have e15 : a.eval (.tmp 128) = .slice (some ⟨b15, 0, none⟩) 5 5 := e15
  obtain ⟨b16, e16, r16⟩ := h.val 66 (by rw [sz6]; omega) (hr ⟨66, .data⟩ (by simp [o6_90]) rfl)
  have e16 : a.eval (.tmp 133) = .slice (some ⟨b16, 0, none⟩) 4 4 := e16
  obtain ⟨b17, e17, r17⟩ := h.val 74 (by rw [sz6]; omega) (hr ⟨74, .data⟩ (by simp [o6_90]) rfl)
  have e17 : a.eval (.tmp 141) = .slice (some ⟨b17, 0, none⟩) 7 7 := e17
  obtain ⟨b18, e18, r18⟩ := h.val 81 (by rw [sz6]; omega) (hr ⟨81, .data⟩ (by simp [o6_90]) rfl)
  have e18 : a.eval (.tmp 148) = .slice (some ⟨b18, 0, none⟩) 6 6 := e18
  obtain ⟨b19, e19, r19⟩ := h.val 89 (by rw [sz6]; omega) (hr ⟨89, .data⟩ (by simp [o6_90]) rfl)
  have e19 : a.eval (.tmp 156) = .slice (some ⟨b19, 0, none⟩) 7 7 := e19
  refine st_lots rg6 h (o := o6_90) (L := [[], [(1, 0, 0, 0)], [(0, 0, 0, 0), (0, 0, 0, 0)], [(0, 0, 0, 0), (1, 0, 0, 0)], [(8, 0, 1, 2), (0, 0, 0, 0)], [(7, 0, 0, 1), (0, 0, 0, 0)], [(9, 0, 0, 0), (0, 0, 0, 0)], [(10, 0, 0, 0), (0, 0, 0, 0)], [(9, 0, 0, 0), (9, 1, 0, 0), (10, 0, 0, 0), (10, 1, 0, 0), (0, 0, 0, 0)], [(9, 0, 0, 0), (9, 0, 0, 0), (10, 0, 0, 0), (10, 0, 0, 0), (0, 0, 0, 0)], [(9, 0, 0, 0), (11, 0, 0, 0), (10, 0, 0, 0), (0, 0, 0, 0)], [(8, 0, 1, 2), (11, 0, 0, 0), (0, 0, 0, 0)], [(7, 0, 0, 1), (11, 0, 0, 0), (0, 0, 0, 0)], [(8, 0, 1, 2), (9, 0, 0, 0), (10, 0, 0, 0), (0, 0, 0, 0)], [(9, 0, 0, 0), (7, 0, 0, 1), (10, 0, 0, 0), (1, 0, 0, 0), (0, 0, 0, 0)], [(8, 0, 2, 2), (1, 0, 0, 0), (7, 0, 0, 1), (1, 0, 0, 0), (0, 0, 0, 0)], [(8, 0, 1, 2), (8, 0, 1, 2), (1, 0, 0, 0), (0, 0, 0, 0)], [(8, 0, 5, 2), (8, 0, 4, 2), (8, 0, 3, 2), (1, 0, 0, 0), (1, 0, 0, 0), (1, 0, 0, 0), (0, 0, 0, 0)], [(7, 0, 0, 2), (1, 0, 0, 0), (8, 0, 2, 2), (1, 0, 0, 0), (1, 0, 0, 0), (0, 0, 0, 0)], [(9, 0, 0, 0), (9, 1, 0, 0), (9, 2, 0, 0), (10, 2, 0, 0), (10, 1, 0, 0), (10, 0, 0, 0), (0, 0, 0, 0)]]) (cells := #[.slice none 0 0, .slice (some ⟨b1, 0, none⟩) 1 1, .slice (some ⟨b2, 0, none⟩) 2 2, .slice (some ⟨b3, 0, none⟩) 2 2, .slice (some ⟨b4, 0, none⟩) 2 2, .slice (some ⟨b5, 0, none⟩) 2 2, .slice (some ⟨b6, 0, none⟩) 2 2, .slice (some ⟨b7, 0, none⟩) 2 2, .slice (some ⟨b8, 0, none⟩) 5 5, .slice (some ⟨b9, 0, none⟩) 5 5, .slice (some ⟨b10, 0, none⟩) 4 4, .slice (some ⟨b11, 0, none⟩) 3 3, .slice (some ⟨b12, 0, none⟩) 3 3, .slice (some ⟨b13, 0, none⟩) 4 4, .slice (some ⟨b14, 0, none⟩) 5 5, .slice (some ⟨b15, 0, none⟩) 5 5, .slice (some ⟨b16, 0, none⟩) 4 4, .slice (some ⟨b17, 0, none⟩) 7 7, .slice (some ⟨b18, 0, none⟩) 6 6, .slice (some ⟨b19, 0, none⟩) 7 7]) rfl rfl rfl rfl rfl rfl rfl (by omega) (by omega) (by rw [sz6]; omega) (fun ie z _ _ hsz hzz => ?_) (fun k hk => ?_)
  · subst hzz
    have ec : a.eval (.const (.slice none 0 0)) = .slice none 0 0 := rfl
    simp only [hsz, List.map_toArray, List.map_cons, List.map_nil, ec, e1, e2, e3, e4, e5, e6, e7, e8, e9, e10, e11, e12, e13, e14, e15, e16, e17, e18, e19]
    exact fill6_90 b1 b2 b3 b4 b5 b6 b7 b8 b9 b10 b11 b12 b13 b14 b15 b16 b17 b18 b19
  · have : k = 0 ∨ k = 1 ∨ k = 2 ∨ k = 3 ∨ k = 4 ∨ k = 5 ∨ k = 6 ∨ k = 7 ∨ k = 8 ∨ k = 9 ∨ k = 10 ∨ k = 11 ∨ k = 12 ∨ k = 13 ∨ k = 14 ∨ k = 15 ∨ k = 16 ∨ k = 17 ∨ k = 18 ∨ k = 19 := by simp at hk; omega
    rcases this with rfl | rfl | rfl | rfl | rfl | rfl | rfl | rfl | rfl | rfl | rfl | rfl | rfl | rfl | rfl | rfl | rfl | rfl | rfl | rfl
    · exact ⟨none, 0, rfl, Rd.nil _⟩
    · exact ⟨_, _, rfl, r1⟩
    · exact ⟨_, _, rfl, r2⟩
    · exact ⟨_, _, rfl, r3⟩
    · exact ⟨_, _, rfl, r4⟩
    · exact ⟨_, _, rfl, r5⟩
    · exact ⟨_, _, rfl, r6⟩
    · exact ⟨_, _, rfl, r7⟩
    · exact ⟨_, _, rfl, r8⟩
    · exact ⟨_, _, rfl, r9⟩
    · exact ⟨_, _, rfl, r10⟩
    · exact ⟨_, _, rfl, r11⟩
    · exact ⟨_, _, rfl, r12⟩
    · exact ⟨_, _, rfl, r13⟩
    · exact ⟨_, _, rfl, r14⟩
    · exact ⟨_, _, rfl, r15⟩
    · exact ⟨_, _, rfl, r16⟩
    · exact ⟨_, _, rfl, r17⟩
    · exact ⟨_, _, rfl, r18⟩
    · exact ⟨_, _, rfl, r19⟩
set_option maxRecDepth 20000 in
theorem s6_91 {w0 : World} {tm : Array Value} {listed : Array Bool} {a : Act} {w : World} {Q : Exit → Act → World → Prop} (h : Iv ops6 sp6 ds6 w0 tm listed a w)  (hr : ∀ e ∈ o6_91.after, Region.binds .any e = true → listed.getD e.on false = true) : wpOp Try.prog ops6 Q 91 (fun a' w' => Iv ops6 sp6 ds6 w0 tm (listed.setIfInBounds 91 true) a' w') a w := st_assign rg6 h (o := o6_91) (j := 90) rfl rfl rfl rfl rfl (by rw [sz6]; omega) (hr ⟨90, .data⟩ (by simp [o6_91]) rfl) rfl rfl (by rw [sz6]; omega)
theorem step6 {w0 : World} {tm : Array Value} {listed : Array Bool} {a : Act} {w : World} {Q : Exit → Act → World → Prop} {rb : Nat → Nat} (h : Iv ops6 sp6 ds6 w0 tm listed a w) (hV : Vr rb w0 tm) : ∀ (i : Nat) (o : Oper), i < 92 → ops6[i]? = some o → (∀ e ∈ o.after, Region.binds .any e = true → listed.getD e.on false = true) → wpOp Try.prog ops6 Q i (fun a' w' => Iv ops6 sp6 ds6 w0 tm (listed.setIfInBounds i true) a' w') a w
  | 0, o, _, ho, hr => by
    obtain rfl : o6_0 = o := Option.some.inj ho
    exact s6_0 h hV
  | 1, o, _, ho, hr => by
    obtain rfl : o6_1 = o := Option.some.inj ho
    exact s6_1 h hr
  | 2, o, _, ho, hr => by
    obtain rfl : o6_2 = o := Option.some.inj ho
    exact s6_2 h hV
  | 3, o, _, ho, hr => by
    obtain rfl : o6_3 = o := Option.some.inj ho
    exact s6_3 h hV
  | 4, o, _, ho, hr => by
    obtain rfl : o6_4 = o := Option.some.inj ho
    exact s6_4 h hr
  | 5, o, _, ho, hr => by
    obtain rfl : o6_5 = o := Option.some.inj ho
    exact s6_5 h hV
  | 6, o, _, ho, hr => by
    obtain rfl : o6_6 = o := Option.some.inj ho
    exact s6_6 h hV
  | 7, o, _, ho, hr => by
    obtain rfl : o6_7 = o := Option.some.inj ho
    exact s6_7 h hr
  | 8, o, _, ho, hr => by
    obtain rfl : o6_8 = o := Option.some.inj ho
    exact s6_8 h
  | 9, o, _, ho, hr => by
    obtain rfl : o6_9 = o := Option.some.inj ho
    exact s6_9 h hV
  | 10, o, _, ho, hr => by
    obtain rfl : o6_10 = o := Option.some.inj ho
    exact s6_10 h hr
  | 11, o, _, ho, hr => by
    obtain rfl : o6_11 = o := Option.some.inj ho
    exact s6_11 h
  | 12, o, _, ho, hr => by
    obtain rfl : o6_12 = o := Option.some.inj ho
    exact s6_12 h hV
  | 13, o, _, ho, hr => by
    obtain rfl : o6_13 = o := Option.some.inj ho
    exact s6_13 h hr
  | 14, o, _, ho, hr => by
    obtain rfl : o6_14 = o := Option.some.inj ho
    exact s6_14 h hV
  | 15, o, _, ho, hr => by
    obtain rfl : o6_15 = o := Option.some.inj ho
    exact s6_15 h hV
  | 16, o, _, ho, hr => by
    obtain rfl : o6_16 = o := Option.some.inj ho
    exact s6_16 h hr
  | 17, o, _, ho, hr => by
    obtain rfl : o6_17 = o := Option.some.inj ho
    exact s6_17 h hV
  | 18, o, _, ho, hr => by
    obtain rfl : o6_18 = o := Option.some.inj ho
    exact s6_18 h hV
  | 19, o, _, ho, hr => by
    obtain rfl : o6_19 = o := Option.some.inj ho
    exact s6_19 h hr
  | 20, o, _, ho, hr => by
    obtain rfl : o6_20 = o := Option.some.inj ho
    exact s6_20 h hV
  | 21, o, _, ho, hr => by
    obtain rfl : o6_21 = o := Option.some.inj ho
    exact s6_21 h hV
  | 22, o, _, ho, hr => by
    obtain rfl : o6_22 = o := Option.some.inj ho
    exact s6_22 h hV
  | 23, o, _, ho, hr => by
    obtain rfl : o6_23 = o := Option.some.inj ho
    exact s6_23 h hV
  | 24, o, _, ho, hr => by
    obtain rfl : o6_24 = o := Option.some.inj ho
    exact s6_24 h hV
  | 25, o, _, ho, hr => by
    obtain rfl : o6_25 = o := Option.some.inj ho
    exact s6_25 h hr
  | 26, o, _, ho, hr => by
    obtain rfl : o6_26 = o := Option.some.inj ho
    exact s6_26 h hV
  | 27, o, _, ho, hr => by
    obtain rfl : o6_27 = o := Option.some.inj ho
    exact s6_27 h hV
  | 28, o, _, ho, hr => by
    obtain rfl : o6_28 = o := Option.some.inj ho
    exact s6_28 h hV
  | 29, o, _, ho, hr => by
    obtain rfl : o6_29 = o := Option.some.inj ho
    exact s6_29 h hV
  | 30, o, _, ho, hr => by
    obtain rfl : o6_30 = o := Option.some.inj ho
    exact s6_30 h hV
  | 31, o, _, ho, hr => by
    obtain rfl : o6_31 = o := Option.some.inj ho
    exact s6_31 h hr
  | 32, o, _, ho, hr => by
    obtain rfl : o6_32 = o := Option.some.inj ho
    exact s6_32 h hV
  | 33, o, _, ho, hr => by
    obtain rfl : o6_33 = o := Option.some.inj ho
    exact s6_33 h hV
  | 34, o, _, ho, hr => by
    obtain rfl : o6_34 = o := Option.some.inj ho
    exact s6_34 h hV
  | 35, o, _, ho, hr => by
    obtain rfl : o6_35 = o := Option.some.inj ho
    exact s6_35 h hV
  | 36, o, _, ho, hr => by
    obtain rfl : o6_36 = o := Option.some.inj ho
    exact s6_36 h hr
  | 37, o, _, ho, hr => by
    obtain rfl : o6_37 = o := Option.some.inj ho
    exact s6_37 h
  | 38, o, _, ho, hr => by
    obtain rfl : o6_38 = o := Option.some.inj ho
    exact s6_38 h hV
  | 39, o, _, ho, hr => by
    obtain rfl : o6_39 = o := Option.some.inj ho
    exact s6_39 h hV
  | 40, o, _, ho, hr => by
    obtain rfl : o6_40 = o := Option.some.inj ho
    exact s6_40 h hr
  | 41, o, _, ho, hr => by
    obtain rfl : o6_41 = o := Option.some.inj ho
    exact s6_41 h
  | 42, o, _, ho, hr => by
    obtain rfl : o6_42 = o := Option.some.inj ho
    exact s6_42 h hV
  | 43, o, _, ho, hr => by
    obtain rfl : o6_43 = o := Option.some.inj ho
    exact s6_43 h hV
  | 44, o, _, ho, hr => by
    obtain rfl : o6_44 = o := Option.some.inj ho
    exact s6_44 h hr
  | 45, o, _, ho, hr => by
    obtain rfl : o6_45 = o := Option.some.inj ho
    exact s6_45 h
  | 46, o, _, ho, hr => by
    obtain rfl : o6_46 = o := Option.some.inj ho
    exact s6_46 h hV
  | 47, o, _, ho, hr => by
    obtain rfl : o6_47 = o := Option.some.inj ho
    exact s6_47 h hV
  | 48, o, _, ho, hr => by
    obtain rfl : o6_48 = o := Option.some.inj ho
    exact s6_48 h hV
  | 49, o, _, ho, hr => by
    obtain rfl : o6_49 = o := Option.some.inj ho
    exact s6_49 h hr
  | 50, o, _, ho, hr => by
    obtain rfl : o6_50 = o := Option.some.inj ho
    exact s6_50 h hV
  | 51, o, _, ho, hr => by
    obtain rfl : o6_51 = o := Option.some.inj ho
    exact s6_51 h
  | 52, o, _, ho, hr => by
    obtain rfl : o6_52 = o := Option.some.inj ho
    exact s6_52 h hV
  | 53, o, _, ho, hr => by
    obtain rfl : o6_53 = o := Option.some.inj ho
    exact s6_53 h hV
  | 54, o, _, ho, hr => by
    obtain rfl : o6_54 = o := Option.some.inj ho
    exact s6_54 h hV
  | 55, o, _, ho, hr => by
    obtain rfl : o6_55 = o := Option.some.inj ho
    exact s6_55 h hr
  | 56, o, _, ho, hr => by
    obtain rfl : o6_56 = o := Option.some.inj ho
    exact s6_56 h
  | 57, o, _, ho, hr => by
    obtain rfl : o6_57 = o := Option.some.inj ho
    exact s6_57 h hV
  | 58, o, _, ho, hr => by
    obtain rfl : o6_58 = o := Option.some.inj ho
    exact s6_58 h
  | 59, o, _, ho, hr => by
    obtain rfl : o6_59 = o := Option.some.inj ho
    exact s6_59 h hV
  | 60, o, _, ho, hr => by
    obtain rfl : o6_60 = o := Option.some.inj ho
    exact s6_60 h hV
  | 61, o, _, ho, hr => by
    obtain rfl : o6_61 = o := Option.some.inj ho
    exact s6_61 h hr
  | 62, o, _, ho, hr => by
    obtain rfl : o6_62 = o := Option.some.inj ho
    exact s6_62 h
  | 63, o, _, ho, hr => by
    obtain rfl : o6_63 = o := Option.some.inj ho
    exact s6_63 h
  | 64, o, _, ho, hr => by
    obtain rfl : o6_64 = o := Option.some.inj ho
    exact s6_64 h hV
  | 65, o, _, ho, hr => by
    obtain rfl : o6_65 = o := Option.some.inj ho
    exact s6_65 h hV
  | 66, o, _, ho, hr => by
    obtain rfl : o6_66 = o := Option.some.inj ho
    exact s6_66 h hr
  | 67, o, _, ho, hr => by
    obtain rfl : o6_67 = o := Option.some.inj ho
    exact s6_67 h
  | 68, o, _, ho, hr => by
    obtain rfl : o6_68 = o := Option.some.inj ho
    exact s6_68 h
  | 69, o, _, ho, hr => by
    obtain rfl : o6_69 = o := Option.some.inj ho
    exact s6_69 h
  | 70, o, _, ho, hr => by
    obtain rfl : o6_70 = o := Option.some.inj ho
    exact s6_70 h hV
  | 71, o, _, ho, hr => by
    obtain rfl : o6_71 = o := Option.some.inj ho
    exact s6_71 h hV
  | 72, o, _, ho, hr => by
    obtain rfl : o6_72 = o := Option.some.inj ho
    exact s6_72 h hV
  | 73, o, _, ho, hr => by
    obtain rfl : o6_73 = o := Option.some.inj ho
    exact s6_73 h hV
  | 74, o, _, ho, hr => by
    obtain rfl : o6_74 = o := Option.some.inj ho
    exact s6_74 h hr
  | 75, o, _, ho, hr => by
    obtain rfl : o6_75 = o := Option.some.inj ho
    exact s6_75 h
  | 76, o, _, ho, hr => by
    obtain rfl : o6_76 = o := Option.some.inj ho
    exact s6_76 h hV
  | 77, o, _, ho, hr => by
    obtain rfl : o6_77 = o := Option.some.inj ho
    exact s6_77 h
  | 78, o, _, ho, hr => by
    obtain rfl : o6_78 = o := Option.some.inj ho
    exact s6_78 h hV
  | 79, o, _, ho, hr => by
    obtain rfl : o6_79 = o := Option.some.inj ho
    exact s6_79 h hV
  | 80, o, _, ho, hr => by
    obtain rfl : o6_80 = o := Option.some.inj ho
    exact s6_80 h hV
  | 81, o, _, ho, hr => by
    obtain rfl : o6_81 = o := Option.some.inj ho
    exact s6_81 h hr
  | 82, o, _, ho, hr => by
    obtain rfl : o6_82 = o := Option.some.inj ho
    exact s6_82 h hV
  | 83, o, _, ho, hr => by
    obtain rfl : o6_83 = o := Option.some.inj ho
    exact s6_83 h hV
  | 84, o, _, ho, hr => by
    obtain rfl : o6_84 = o := Option.some.inj ho
    exact s6_84 h
  | 85, o, _, ho, hr => by
    obtain rfl : o6_85 = o := Option.some.inj ho
    exact s6_85 h
  | 86, o, _, ho, hr => by
    obtain rfl : o6_86 = o := Option.some.inj ho
    exact s6_86 h hV
  | 87, o, _, ho, hr => by
    obtain rfl : o6_87 = o := Option.some.inj ho
    exact s6_87 h hV
  | 88, o, _, ho, hr => by
    obtain rfl : o6_88 = o := Option.some.inj ho
    exact s6_88 h hV
  | 89, o, _, ho, hr => by
    obtain rfl : o6_89 = o := Option.some.inj ho
    exact s6_89 h hr
  | 90, o, _, ho, hr => by
    obtain rfl : o6_90 = o := Option.some.inj ho
    exact s6_90 h hr
  | 91, o, _, ho, hr => by
    obtain rfl : o6_91 = o := Option.some.inj ho
    exact s6_91 h hr
  | i + 92, _, h, _, _ => absurd h (by omega)
set_option maxRecDepth 100000 in
theorem ahead6 : ∀ (i : Nat) (o : Oper), ops6[i]? = some o → ∀ e ∈ o.after, e.on < i := by
  have hb : ((List.range 92).all fun i => (ops6.getD i default).after.all fun e => decide (e.on < i)) = true := by kernel_rfl
  intro i o ho e he
  have hi : i < 92 := by
    have := (Array.getElem?_eq_some_iff.1 ho).1
    rw [sz6] at this
    exact this
  have h1 := List.all_eq_true.1 hb i (by simpa using hi)
  have h2 : ops6.getD i default = o := by rw [Array.getD_eq_getD_getElem?, ho]; rfl
  rw [h2] at h1
  have h3 := (Array.all_eq_true_iff_forall_mem.1 h1) e he
  exact of_decide_eq_true h3
end Go.Proofs.Yteikdocpncdheaa
