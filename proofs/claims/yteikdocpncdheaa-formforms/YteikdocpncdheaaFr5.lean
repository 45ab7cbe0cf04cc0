/-
  The drawn region 5 of the law FormForms: each operation's value.
-/
import Derived.Test.YteikdocpncdheaaFgen
namespace Go.Proofs.Yteikdocpncdheaa
open Go.ChangeShapes Go.WideShapes Go.ChangeAt Go.RowKit
attribute [local go_sem ↓] Go.wp_at_zero Go.wp_at_succ

def o5_0 : Oper := { dst := some 21, op := Op.load 45 (Operand.tmp 1), type := 45, pos := "law.go:101", after := #[], guard := none }
def o5_1 : Oper := { dst := some 22, op := Op.buildSlice 22 1 #[(0, Operand.tmp 21)], type := 22, pos := "law.go:101", after := #[{ on := 0, ground := Ground.data }], guard := none }
def o5_2 : Oper := { dst := some 23, op := Op.load 45 (Operand.tmp 2), type := 45, pos := "law.go:101", after := #[], guard := none }
def o5_3 : Oper := { dst := some 24, op := Op.load 45 (Operand.tmp 2), type := 45, pos := "law.go:101", after := #[], guard := none }
def o5_4 : Oper := { dst := some 25, op := Op.load 45 (Operand.tmp 1), type := 45, pos := "law.go:101", after := #[], guard := none }
def o5_5 : Oper := { dst := some 26, op := Op.buildSlice 22 3 #[(0, Operand.tmp 23), (1, Operand.tmp 24), (2, Operand.tmp 25)], type := 22, pos := "law.go:101", after := #[{ on := 2, ground := Ground.data }, { on := 3, ground := Ground.data }, { on := 4, ground := Ground.data }], guard := none }
def o5_6 : Oper := { dst := some 27, op := Op.load 45 (Operand.tmp 4), type := 45, pos := "law.go:101", after := #[], guard := none }
def o5_7 : Oper := { dst := some 28, op := Op.load 45 (Operand.tmp 6), type := 45, pos := "law.go:101", after := #[], guard := none }
def o5_8 : Oper := { dst := some 29, op := Op.load 45 (Operand.tmp 3), type := 45, pos := "law.go:101", after := #[], guard := none }
def o5_9 : Oper := { dst := some 30, op := Op.load 45 (Operand.tmp 7), type := 45, pos := "law.go:101", after := #[], guard := none }
def o5_10 : Oper := { dst := some 31, op := Op.load 45 (Operand.tmp 5), type := 45, pos := "law.go:101", after := #[], guard := none }
def o5_11 : Oper := { dst := some 32, op := Op.load 45 (Operand.tmp 1), type := 45, pos := "law.go:101", after := #[], guard := none }
def o5_12 : Oper := { dst := some 33, op := Op.buildSlice 22 6 #[(0, Operand.tmp 27), (1, Operand.tmp 28), (2, Operand.tmp 29), (3, Operand.tmp 30), (4, Operand.tmp 31), (5, Operand.tmp 32)], type := 22, pos := "law.go:101", after := #[{ on := 6, ground := Ground.data }, { on := 7, ground := Ground.data }, { on := 8, ground := Ground.data }, { on := 9, ground := Ground.data }, { on := 10, ground := Ground.data }, { on := 11, ground := Ground.data }], guard := none }
def o5_13 : Oper := { dst := some 34, op := Op.call { callee := Callee.value (Operand.func 19), args := #[Operand.const (Value.int IntKind.i64 2), Operand.const (Value.int IntKind.i64 3)], argTypes := #[3, 3] }, type := 45, pos := "law.go:101", after := #[], guard := none }
def o5_14 : Oper := { dst := some 35, op := Op.load 45 (Operand.tmp 4), type := 45, pos := "law.go:101", after := #[], guard := none }
def o5_15 : Oper := { dst := some 36, op := Op.load 45 (Operand.tmp 5), type := 45, pos := "law.go:101", after := #[], guard := none }
def o5_16 : Oper := { dst := some 37, op := Op.load 45 (Operand.tmp 1), type := 45, pos := "law.go:101", after := #[], guard := none }
def o5_17 : Oper := { dst := some 38, op := Op.buildSlice 22 4 #[(0, Operand.tmp 34), (1, Operand.tmp 35), (2, Operand.tmp 36), (3, Operand.tmp 37)], type := 22, pos := "law.go:101", after := #[{ on := 13, ground := Ground.data }, { on := 14, ground := Ground.data }, { on := 15, ground := Ground.data }, { on := 16, ground := Ground.data }], guard := none }
def o5_18 : Oper := { dst := some 39, op := Op.call { callee := Callee.value (Operand.func 19), args := #[Operand.const (Value.int IntKind.i64 4), Operand.const (Value.int IntKind.i64 2)], argTypes := #[3, 3] }, type := 45, pos := "law.go:101", after := #[{ on := 13, ground := Ground.chain }], guard := none }
def o5_19 : Oper := { dst := some 40, op := Op.load 45 (Operand.tmp 3), type := 45, pos := "law.go:101", after := #[], guard := none }
def o5_20 : Oper := { dst := some 41, op := Op.call { callee := Callee.value (Operand.func 19), args := #[Operand.const (Value.int IntKind.i64 2), Operand.const (Value.int IntKind.i64 2)], argTypes := #[3, 3] }, type := 45, pos := "law.go:101", after := #[{ on := 18, ground := Ground.chain }], guard := none }
def o5_21 : Oper := { dst := some 42, op := Op.load 45 (Operand.tmp 3), type := 45, pos := "law.go:101", after := #[], guard := none }
def o5_22 : Oper := { dst := some 43, op := Op.load 45 (Operand.tmp 3), type := 45, pos := "law.go:101", after := #[], guard := none }
def o5_23 : Oper := { dst := some 44, op := Op.load 45 (Operand.tmp 1), type := 45, pos := "law.go:101", after := #[], guard := none }
def o5_24 : Oper := { dst := some 45, op := Op.buildSlice 22 6 #[(0, Operand.tmp 39), (1, Operand.tmp 40), (2, Operand.tmp 41), (3, Operand.tmp 42), (4, Operand.tmp 43), (5, Operand.tmp 44)], type := 22, pos := "law.go:101", after := #[{ on := 18, ground := Ground.data }, { on := 19, ground := Ground.data }, { on := 20, ground := Ground.data }, { on := 21, ground := Ground.data }, { on := 22, ground := Ground.data }, { on := 23, ground := Ground.data }], guard := none }
def o5_25 : Oper := { dst := some 46, op := Op.call { callee := Callee.value (Operand.func 20), args := #[Operand.const (Value.int IntKind.i64 2)], argTypes := #[3] }, type := 45, pos := "law.go:101", after := #[{ on := 20, ground := Ground.chain }], guard := none }
def o5_26 : Oper := { dst := some 47, op := Op.load 45 (Operand.tmp 4), type := 45, pos := "law.go:101", after := #[], guard := none }
def o5_27 : Oper := { dst := some 48, op := Op.load 45 (Operand.tmp 5), type := 45, pos := "law.go:101", after := #[], guard := none }
def o5_28 : Oper := { dst := some 49, op := Op.load 45 (Operand.tmp 2), type := 45, pos := "law.go:101", after := #[], guard := none }
def o5_29 : Oper := { dst := some 50, op := Op.load 45 (Operand.tmp 1), type := 45, pos := "law.go:101", after := #[], guard := none }
def o5_30 : Oper := { dst := some 51, op := Op.buildSlice 22 5 #[(0, Operand.tmp 46), (1, Operand.tmp 47), (2, Operand.tmp 48), (3, Operand.tmp 49), (4, Operand.tmp 50)], type := 22, pos := "law.go:101", after := #[{ on := 25, ground := Ground.data }, { on := 26, ground := Ground.data }, { on := 27, ground := Ground.data }, { on := 28, ground := Ground.data }, { on := 29, ground := Ground.data }], guard := none }
def o5_31 : Oper := { dst := some 52, op := Op.load 45 (Operand.tmp 4), type := 45, pos := "law.go:101", after := #[], guard := none }
def o5_32 : Oper := { dst := some 53, op := Op.call { callee := Callee.value (Operand.func 19), args := #[Operand.const (Value.int IntKind.i64 1), Operand.const (Value.int IntKind.i64 2)], argTypes := #[3, 3] }, type := 45, pos := "law.go:101", after := #[{ on := 25, ground := Ground.chain }], guard := none }
def o5_33 : Oper := { dst := some 54, op := Op.load 45 (Operand.tmp 3), type := 45, pos := "law.go:101", after := #[], guard := none }
def o5_34 : Oper := { dst := some 55, op := Op.call { callee := Callee.value (Operand.func 20), args := #[Operand.const (Value.int IntKind.i64 1)], argTypes := #[3] }, type := 45, pos := "law.go:101", after := #[{ on := 32, ground := Ground.chain }], guard := none }
def o5_35 : Oper := { dst := some 56, op := Op.load 45 (Operand.tmp 3), type := 45, pos := "law.go:101", after := #[], guard := none }
def o5_36 : Oper := { dst := some 57, op := Op.load 45 (Operand.tmp 5), type := 45, pos := "law.go:101", after := #[], guard := none }
def o5_37 : Oper := { dst := some 58, op := Op.load 45 (Operand.tmp 1), type := 45, pos := "law.go:101", after := #[], guard := none }
def o5_38 : Oper := { dst := some 59, op := Op.buildSlice 22 7 #[(0, Operand.tmp 52), (1, Operand.tmp 53), (2, Operand.tmp 54), (3, Operand.tmp 55), (4, Operand.tmp 56), (5, Operand.tmp 57), (6, Operand.tmp 58)], type := 22, pos := "law.go:101", after := #[{ on := 31, ground := Ground.data }, { on := 32, ground := Ground.data }, { on := 33, ground := Ground.data }, { on := 34, ground := Ground.data }, { on := 35, ground := Ground.data }, { on := 36, ground := Ground.data }, { on := 37, ground := Ground.data }], guard := none }
def o5_39 : Oper := { dst := some 60, op := Op.call { callee := Callee.value (Operand.func 19), args := #[Operand.const (Value.int IntKind.i64 3), Operand.const (Value.int IntKind.i64 2)], argTypes := #[3, 3] }, type := 45, pos := "law.go:101", after := #[{ on := 34, ground := Ground.chain }], guard := none }
def o5_40 : Oper := { dst := some 61, op := Op.call { callee := Callee.value (Operand.func 20), args := #[Operand.const (Value.int IntKind.i64 2)], argTypes := #[3] }, type := 45, pos := "law.go:101", after := #[{ on := 39, ground := Ground.chain }], guard := none }
def o5_41 : Oper := { dst := some 62, op := Op.load 45 (Operand.tmp 3), type := 45, pos := "law.go:101", after := #[], guard := none }
def o5_42 : Oper := { dst := some 63, op := Op.load 45 (Operand.tmp 3), type := 45, pos := "law.go:101", after := #[], guard := none }
def o5_43 : Oper := { dst := some 64, op := Op.load 45 (Operand.tmp 1), type := 45, pos := "law.go:101", after := #[], guard := none }
def o5_44 : Oper := { dst := some 65, op := Op.buildSlice 22 5 #[(0, Operand.tmp 60), (1, Operand.tmp 61), (2, Operand.tmp 62), (3, Operand.tmp 63), (4, Operand.tmp 64)], type := 22, pos := "law.go:101", after := #[{ on := 39, ground := Ground.data }, { on := 40, ground := Ground.data }, { on := 41, ground := Ground.data }, { on := 42, ground := Ground.data }, { on := 43, ground := Ground.data }], guard := none }
def o5_45 : Oper := { dst := some 66, op := Op.buildSlice 29 8 #[(0, Operand.tmp 22), (1, Operand.tmp 26), (2, Operand.tmp 33), (3, Operand.tmp 38), (4, Operand.tmp 45), (5, Operand.tmp 51), (6, Operand.tmp 59), (7, Operand.tmp 65)], type := 29, pos := "law.go:101", after := #[{ on := 1, ground := Ground.data }, { on := 5, ground := Ground.data }, { on := 12, ground := Ground.data }, { on := 17, ground := Ground.data }, { on := 24, ground := Ground.data }, { on := 30, ground := Ground.data }, { on := 38, ground := Ground.data }, { on := 44, ground := Ground.data }], guard := none }
def o5_46 : Oper := { dst := some 8, op := Op.assign (Operand.tmp 66), type := 29, pos := "law.go:101", after := #[{ on := 45, ground := Ground.data }, { on := 40, ground := Ground.chain }, { on := 0, ground := Ground.phase }, { on := 1, ground := Ground.phase }, { on := 2, ground := Ground.phase }, { on := 3, ground := Ground.phase }, { on := 4, ground := Ground.phase }, { on := 5, ground := Ground.phase }, { on := 6, ground := Ground.phase }, { on := 7, ground := Ground.phase }, { on := 8, ground := Ground.phase }, { on := 9, ground := Ground.phase }, { on := 10, ground := Ground.phase }, { on := 11, ground := Ground.phase }, { on := 12, ground := Ground.phase }, { on := 13, ground := Ground.phase }, { on := 14, ground := Ground.phase }, { on := 15, ground := Ground.phase }, { on := 16, ground := Ground.phase }, { on := 17, ground := Ground.phase }, { on := 18, ground := Ground.phase }, { on := 19, ground := Ground.phase }, { on := 20, ground := Ground.phase }, { on := 21, ground := Ground.phase }, { on := 22, ground := Ground.phase }, { on := 23, ground := Ground.phase }, { on := 24, ground := Ground.phase }, { on := 25, ground := Ground.phase }, { on := 26, ground := Ground.phase }, { on := 27, ground := Ground.phase }, { on := 28, ground := Ground.phase }, { on := 29, ground := Ground.phase }, { on := 30, ground := Ground.phase }, { on := 31, ground := Ground.phase }, { on := 32, ground := Ground.phase }, { on := 33, ground := Ground.phase }, { on := 34, ground := Ground.phase }, { on := 35, ground := Ground.phase }, { on := 36, ground := Ground.phase }, { on := 37, ground := Ground.phase }, { on := 38, ground := Ground.phase }, { on := 39, ground := Ground.phase }, { on := 40, ground := Ground.phase }, { on := 41, ground := Ground.phase }, { on := 42, ground := Ground.phase }, { on := 43, ground := Ground.phase }, { on := 44, ground := Ground.phase }, { on := 45, ground := Ground.phase }], guard := none }
def ops5 : Array Oper := #[o5_0, o5_1, o5_2, o5_3, o5_4, o5_5, o5_6, o5_7, o5_8, o5_9, o5_10, o5_11, o5_12, o5_13, o5_14, o5_15, o5_16, o5_17, o5_18, o5_19, o5_20, o5_21, o5_22, o5_23, o5_24, o5_25, o5_26, o5_27, o5_28, o5_29, o5_30, o5_31, o5_32, o5_33, o5_34, o5_35, o5_36, o5_37, o5_38, o5_39, o5_40, o5_41, o5_42, o5_43, o5_44, o5_45, o5_46]
def sp5 : List Sp := [.ins (0, 0, 0, 0), .prog [(0, 0, 0, 0)], .ins (11, 0, 0, 0), .ins (11, 0, 0, 0), .ins (0, 0, 0, 0), .prog [(11, 0, 0, 0), (11, 0, 0, 0), (0, 0, 0, 0)], .ins (9, 0, 0, 0), .ins (9, 1, 0, 0), .ins (1, 0, 0, 0), .ins (10, 1, 0, 0), .ins (10, 0, 0, 0), .ins (0, 0, 0, 0), .prog [(9, 0, 0, 0), (9, 1, 0, 0), (1, 0, 0, 0), (10, 1, 0, 0), (10, 0, 0, 0), (0, 0, 0, 0)], .ins (8, 0, 2, 3), .ins (9, 0, 0, 0), .ins (10, 0, 0, 0), .ins (0, 0, 0, 0), .prog [(8, 0, 2, 3), (9, 0, 0, 0), (10, 0, 0, 0), (0, 0, 0, 0)], .ins (8, 0, 4, 2), .ins (1, 0, 0, 0), .ins (8, 0, 2, 2), .ins (1, 0, 0, 0), .ins (1, 0, 0, 0), .ins (0, 0, 0, 0), .prog [(8, 0, 4, 2), (1, 0, 0, 0), (8, 0, 2, 2), (1, 0, 0, 0), (1, 0, 0, 0), (0, 0, 0, 0)], .ins (7, 0, 0, 2), .ins (9, 0, 0, 0), .ins (10, 0, 0, 0), .ins (11, 0, 0, 0), .ins (0, 0, 0, 0), .prog [(7, 0, 0, 2), (9, 0, 0, 0), (10, 0, 0, 0), (11, 0, 0, 0), (0, 0, 0, 0)], .ins (9, 0, 0, 0), .ins (8, 0, 1, 2), .ins (1, 0, 0, 0), .ins (7, 0, 0, 1), .ins (1, 0, 0, 0), .ins (10, 0, 0, 0), .ins (0, 0, 0, 0), .prog [(9, 0, 0, 0), (8, 0, 1, 2), (1, 0, 0, 0), (7, 0, 0, 1), (1, 0, 0, 0), (10, 0, 0, 0), (0, 0, 0, 0)], .ins (8, 0, 3, 2), .ins (7, 0, 0, 2), .ins (1, 0, 0, 0), .ins (1, 0, 0, 0), .ins (0, 0, 0, 0), .prog [(8, 0, 3, 2), (7, 0, 0, 2), (1, 0, 0, 0), (1, 0, 0, 0), (0, 0, 0, 0)], .lots [[(0, 0, 0, 0)], [(11, 0, 0, 0), (11, 0, 0, 0), (0, 0, 0, 0)], [(9, 0, 0, 0), (9, 1, 0, 0), (1, 0, 0, 0), (10, 1, 0, 0), (10, 0, 0, 0), (0, 0, 0, 0)], [(8, 0, 2, 3), (9, 0, 0, 0), (10, 0, 0, 0), (0, 0, 0, 0)], [(8, 0, 4, 2), (1, 0, 0, 0), (8, 0, 2, 2), (1, 0, 0, 0), (1, 0, 0, 0), (0, 0, 0, 0)], [(7, 0, 0, 2), (9, 0, 0, 0), (10, 0, 0, 0), (11, 0, 0, 0), (0, 0, 0, 0)], [(9, 0, 0, 0), (8, 0, 1, 2), (1, 0, 0, 0), (7, 0, 0, 1), (1, 0, 0, 0), (10, 0, 0, 0), (0, 0, 0, 0)], [(8, 0, 3, 2), (7, 0, 0, 2), (1, 0, 0, 0), (1, 0, 0, 0), (0, 0, 0, 0)]], .lots [[(0, 0, 0, 0)], [(11, 0, 0, 0), (11, 0, 0, 0), (0, 0, 0, 0)], [(9, 0, 0, 0), (9, 1, 0, 0), (1, 0, 0, 0), (10, 1, 0, 0), (10, 0, 0, 0), (0, 0, 0, 0)], [(8, 0, 2, 3), (9, 0, 0, 0), (10, 0, 0, 0), (0, 0, 0, 0)], [(8, 0, 4, 2), (1, 0, 0, 0), (8, 0, 2, 2), (1, 0, 0, 0), (1, 0, 0, 0), (0, 0, 0, 0)], [(7, 0, 0, 2), (9, 0, 0, 0), (10, 0, 0, 0), (11, 0, 0, 0), (0, 0, 0, 0)], [(9, 0, 0, 0), (8, 0, 1, 2), (1, 0, 0, 0), (7, 0, 0, 1), (1, 0, 0, 0), (10, 0, 0, 0), (0, 0, 0, 0)], [(8, 0, 3, 2), (7, 0, 0, 2), (1, 0, 0, 0), (1, 0, 0, 0), (0, 0, 0, 0)]]]
def ds5 : List Nat := [21, 22, 23, 24, 25, 26, 27, 28, 29, 30, 31, 32, 33, 34, 35, 36, 37, 38, 39, 40, 41, 42, 43, 44, 45, 46, 47, 48, 49, 50, 51, 52, 53, 54, 55, 56, 57, 58, 59, 60, 61, 62, 63, 64, 65, 66, 8]
set_option maxRecDepth 100000 in
theorem rg5 : Rg ops5 ds5 := ⟨by decide, rfl, by decide, fun t h1 h7 => by
  have : t = 1 ∨ t = 2 ∨ t = 3 ∨ t = 4 ∨ t = 5 ∨ t = 6 ∨ t = 7 := by omega
  rcases this with rfl | rfl | rfl | rfl | rfl | rfl | rfl <;> decide⟩
theorem sz5 : ops5.size = 47 := rfl
set_option maxRecDepth 20000 in
theorem s5_0 {w0 : World} {tm : Array Value} {listed : Array Bool} {a : Act} {w : World} {Q : Exit → Act → World → Prop} {rb : Nat → Nat} (h : Iv ops5 sp5 ds5 w0 tm listed a w) (hV : Vr rb w0 tm)  : wpOp Try.prog ops5 Q 0 (fun a' w' => Iv ops5 sp5 ds5 w0 tm (listed.setIfInBounds 0 true) a' w') a w := st_load rg5 h hV (o := o5_0) rfl rfl rfl rfl rfl (by omega) (by omega) rfl (by rw [sz5]; omega)
set_option maxRecDepth 20000 in
theorem s5_1 {w0 : World} {tm : Array Value} {listed : Array Bool} {a : Act} {w : World} {Q : Exit → Act → World → Prop} (h : Iv ops5 sp5 ds5 w0 tm listed a w)  (hr : ∀ e ∈ o5_1.after, Region.binds .any e = true → listed.getD e.on false = true) : wpOp Try.prog ops5 Q 1 (fun a' w' => Iv ops5 sp5 ds5 w0 tm (listed.setIfInBounds 1 true) a' w') a w := by
  have e0 : a.eval (.tmp 21) = .agg #[.int .i64 0, .int .i64 0, .int .i64 0, .int .i64 0] := h.val 0 (by rw [sz5]; omega) (hr ⟨0, .data⟩ (by simp [o5_1]) rfl)
  refine st_row rg5 h (o := o5_1) (l := [(0, 0, 0, 0)]) (cells := #[.int .i64 0, .int .i64 0, .int .i64 0, .int .i64 0]) rfl rfl rfl rfl rfl rfl rfl (by omega) (by omega) (by rw [sz5]; omega) (fun ie z _ _ hsz hzz => ?_) rfl
  subst hzz
  simp only [hsz, List.map_toArray, List.map_cons, List.map_nil, e0]
  kernel_rfl
set_option maxRecDepth 20000 in
theorem s5_2 {w0 : World} {tm : Array Value} {listed : Array Bool} {a : Act} {w : World} {Q : Exit → Act → World → Prop} {rb : Nat → Nat} (h : Iv ops5 sp5 ds5 w0 tm listed a w) (hV : Vr rb w0 tm)  : wpOp Try.prog ops5 Q 2 (fun a' w' => Iv ops5 sp5 ds5 w0 tm (listed.setIfInBounds 2 true) a' w') a w := st_load rg5 h hV (o := o5_2) rfl rfl rfl rfl rfl (by omega) (by omega) rfl (by rw [sz5]; omega)
set_option maxRecDepth 20000 in
theorem s5_3 {w0 : World} {tm : Array Value} {listed : Array Bool} {a : Act} {w : World} {Q : Exit → Act → World → Prop} {rb : Nat → Nat} (h : Iv ops5 sp5 ds5 w0 tm listed a w) (hV : Vr rb w0 tm)  : wpOp Try.prog ops5 Q 3 (fun a' w' => Iv ops5 sp5 ds5 w0 tm (listed.setIfInBounds 3 true) a' w') a w := st_load rg5 h hV (o := o5_3) rfl rfl rfl rfl rfl (by omega) (by omega) rfl (by rw [sz5]; omega)
set_option maxRecDepth 20000 in
theorem s5_4 {w0 : World} {tm : Array Value} {listed : Array Bool} {a : Act} {w : World} {Q : Exit → Act → World → Prop} {rb : Nat → Nat} (h : Iv ops5 sp5 ds5 w0 tm listed a w) (hV : Vr rb w0 tm)  : wpOp Try.prog ops5 Q 4 (fun a' w' => Iv ops5 sp5 ds5 w0 tm (listed.setIfInBounds 4 true) a' w') a w := st_load rg5 h hV (o := o5_4) rfl rfl rfl rfl rfl (by omega) (by omega) rfl (by rw [sz5]; omega)
set_option maxRecDepth 20000 in
theorem s5_5 {w0 : World} {tm : Array Value} {listed : Array Bool} {a : Act} {w : World} {Q : Exit → Act → World → Prop} (h : Iv ops5 sp5 ds5 w0 tm listed a w)  (hr : ∀ e ∈ o5_5.after, Region.binds .any e = true → listed.getD e.on false = true) : wpOp Try.prog ops5 Q 5 (fun a' w' => Iv ops5 sp5 ds5 w0 tm (listed.setIfInBounds 5 true) a' w') a w := by
  have e0 : a.eval (.tmp 23) = .agg #[.int .i64 11, .int .i64 0, .int .i64 0, .int .i64 0] := h.val 2 (by rw [sz5]; omega) (hr ⟨2, .data⟩ (by simp [o5_5]) rfl)
  have e1 : a.eval (.tmp 24) = .agg #[.int .i64 11, .int .i64 0, .int .i64 0, .int .i64 0] := h.val 3 (by rw [sz5]; omega) (hr ⟨3, .data⟩ (by simp [o5_5]) rfl)
  have e2 : a.eval (.tmp 25) = .agg #[.int .i64 0, .int .i64 0, .int .i64 0, .int .i64 0] := h.val 4 (by rw [sz5]; omega) (hr ⟨4, .data⟩ (by simp [o5_5]) rfl)
  refine st_row rg5 h (o := o5_5) (l := [(11, 0, 0, 0), (11, 0, 0, 0), (0, 0, 0, 0)]) (cells := #[.int .i64 11, .int .i64 0, .int .i64 0, .int .i64 0, .int .i64 11, .int .i64 0, .int .i64 0, .int .i64 0, .int .i64 0, .int .i64 0, .int .i64 0, .int .i64 0]) rfl rfl rfl rfl rfl rfl rfl (by omega) (by omega) (by rw [sz5]; omega) (fun ie z _ _ hsz hzz => ?_) rfl
  subst hzz
  simp only [hsz, List.map_toArray, List.map_cons, List.map_nil, e0, e1, e2]
  kernel_rfl
set_option maxRecDepth 20000 in
theorem s5_6 {w0 : World} {tm : Array Value} {listed : Array Bool} {a : Act} {w : World} {Q : Exit → Act → World → Prop} {rb : Nat → Nat} (h : Iv ops5 sp5 ds5 w0 tm listed a w) (hV : Vr rb w0 tm)  : wpOp Try.prog ops5 Q 6 (fun a' w' => Iv ops5 sp5 ds5 w0 tm (listed.setIfInBounds 6 true) a' w') a w := st_load rg5 h hV (o := o5_6) rfl rfl rfl rfl rfl (by omega) (by omega) rfl (by rw [sz5]; omega)
set_option maxRecDepth 20000 in
theorem s5_7 {w0 : World} {tm : Array Value} {listed : Array Bool} {a : Act} {w : World} {Q : Exit → Act → World → Prop} {rb : Nat → Nat} (h : Iv ops5 sp5 ds5 w0 tm listed a w) (hV : Vr rb w0 tm)  : wpOp Try.prog ops5 Q 7 (fun a' w' => Iv ops5 sp5 ds5 w0 tm (listed.setIfInBounds 7 true) a' w') a w := st_load rg5 h hV (o := o5_7) rfl rfl rfl rfl rfl (by omega) (by omega) rfl (by rw [sz5]; omega)
set_option maxRecDepth 20000 in
theorem s5_8 {w0 : World} {tm : Array Value} {listed : Array Bool} {a : Act} {w : World} {Q : Exit → Act → World → Prop} {rb : Nat → Nat} (h : Iv ops5 sp5 ds5 w0 tm listed a w) (hV : Vr rb w0 tm)  : wpOp Try.prog ops5 Q 8 (fun a' w' => Iv ops5 sp5 ds5 w0 tm (listed.setIfInBounds 8 true) a' w') a w := st_load rg5 h hV (o := o5_8) rfl rfl rfl rfl rfl (by omega) (by omega) rfl (by rw [sz5]; omega)
set_option maxRecDepth 20000 in
theorem s5_9 {w0 : World} {tm : Array Value} {listed : Array Bool} {a : Act} {w : World} {Q : Exit → Act → World → Prop} {rb : Nat → Nat} (h : Iv ops5 sp5 ds5 w0 tm listed a w) (hV : Vr rb w0 tm)  : wpOp Try.prog ops5 Q 9 (fun a' w' => Iv ops5 sp5 ds5 w0 tm (listed.setIfInBounds 9 true) a' w') a w := st_load rg5 h hV (o := o5_9) rfl rfl rfl rfl rfl (by omega) (by omega) rfl (by rw [sz5]; omega)
set_option maxRecDepth 20000 in
theorem s5_10 {w0 : World} {tm : Array Value} {listed : Array Bool} {a : Act} {w : World} {Q : Exit → Act → World → Prop} {rb : Nat → Nat} (h : Iv ops5 sp5 ds5 w0 tm listed a w) (hV : Vr rb w0 tm)  : wpOp Try.prog ops5 Q 10 (fun a' w' => Iv ops5 sp5 ds5 w0 tm (listed.setIfInBounds 10 true) a' w') a w := st_load rg5 h hV (o := o5_10) rfl rfl rfl rfl rfl (by omega) (by omega) rfl (by rw [sz5]; omega)
set_option maxRecDepth 20000 in
theorem s5_11 {w0 : World} {tm : Array Value} {listed : Array Bool} {a : Act} {w : World} {Q : Exit → Act → World → Prop} {rb : Nat → Nat} (h : Iv ops5 sp5 ds5 w0 tm listed a w) (hV : Vr rb w0 tm)  : wpOp Try.prog ops5 Q 11 (fun a' w' => Iv ops5 sp5 ds5 w0 tm (listed.setIfInBounds 11 true) a' w') a w := st_load rg5 h hV (o := o5_11) rfl rfl rfl rfl rfl (by omega) (by omega) rfl (by rw [sz5]; omega)
set_option maxRecDepth 20000 in
theorem s5_12 {w0 : World} {tm : Array Value} {listed : Array Bool} {a : Act} {w : World} {Q : Exit → Act → World → Prop} (h : Iv ops5 sp5 ds5 w0 tm listed a w)  (hr : ∀ e ∈ o5_12.after, Region.binds .any e = true → listed.getD e.on false = true) : wpOp Try.prog ops5 Q 12 (fun a' w' => Iv ops5 sp5 ds5 w0 tm (listed.setIfInBounds 12 true) a' w') a w := by
  have e0 : a.eval (.tmp 27) = .agg #[.int .i64 9, .int .i64 0, .int .i64 0, .int .i64 0] := h.val 6 (by rw [sz5]; omega) (hr ⟨6, .data⟩ (by simp [o5_12]) rfl)
  have e1 : a.eval (.tmp 28) = .agg #[.int .i64 9, .int .i64 1, .int .i64 0, .int .i64 0] := h.val 7 (by rw [sz5]; omega) (hr ⟨7, .data⟩ (by simp [o5_12]) rfl)
  have e2 : a.eval (.tmp 29) = .agg #[.int .i64 1, .int .i64 0, .int .i64 0, .int .i64 0] := h.val 8 (by rw [sz5]; omega) (hr ⟨8, .data⟩ (by simp [o5_12]) rfl)
  have e3 : a.eval (.tmp 30) = .agg #[.int .i64 10, .int .i64 1, .int .i64 0, .int .i64 0] := h.val 9 (by rw [sz5]; omega) (hr ⟨9, .data⟩ (by simp [o5_12]) rfl)
  have e4 : a.eval (.tmp 31) = .agg #[.int .i64 10, .int .i64 0, .int .i64 0, .int .i64 0] := h.val 10 (by rw [sz5]; omega) (hr ⟨10, .data⟩ (by simp [o5_12]) rfl)
  have e5 : a.eval (.tmp 32) = .agg #[.int .i64 0, .int .i64 0, .int .i64 0, .int .i64 0] := h.val 11 (by rw [sz5]; omega) (hr ⟨11, .data⟩ (by simp [o5_12]) rfl)
  refine st_row rg5 h (o := o5_12) (l := [(9, 0, 0, 0), (9, 1, 0, 0), (1, 0, 0, 0), (10, 1, 0, 0), (10, 0, 0, 0), (0, 0, 0, 0)]) (cells := #[.int .i64 9, .int .i64 0, .int .i64 0, .int .i64 0, .int .i64 9, .int .i64 1, .int .i64 0, .int .i64 0, .int .i64 1, .int .i64 0, .int .i64 0, .int .i64 0, .int .i64 10, .int .i64 1, .int .i64 0, .int .i64 0, .int .i64 10, .int .i64 0, .int .i64 0, .int .i64 0, .int .i64 0, .int .i64 0, .int .i64 0, .int .i64 0]) rfl rfl rfl rfl rfl rfl rfl (by omega) (by omega) (by rw [sz5]; omega) (fun ie z _ _ hsz hzz => ?_) rfl
  subst hzz
  simp only [hsz, List.map_toArray, List.map_cons, List.map_nil, e0, e1, e2, e3, e4, e5]
  kernel_rfl
set_option maxRecDepth 20000 in
theorem s5_13 {w0 : World} {tm : Array Value} {listed : Array Bool} {a : Act} {w : World} {Q : Exit → Act → World → Prop} (h : Iv ops5 sp5 ds5 w0 tm listed a w)   : wpOp Try.prog ops5 Q 13 (fun a' w' => Iv ops5 sp5 ds5 w0 tm (listed.setIfInBounds 13 true) a' w') a w := by
  refine wp_one (o := o5_13) rfl rfl ?_
  unfold o5_13
  go_simp
  go_at_call 19
  refine (rep_any 2 3 w).mono ?_
  rintro e w1 ⟨rfl, hb⟩
  exact h.put rg5.nd rg5.len rg5.lt (i := 13) (by rw [sz5]; omega) hb rfl
set_option maxRecDepth 20000 in
theorem s5_14 {w0 : World} {tm : Array Value} {listed : Array Bool} {a : Act} {w : World} {Q : Exit → Act → World → Prop} {rb : Nat → Nat} (h : Iv ops5 sp5 ds5 w0 tm listed a w) (hV : Vr rb w0 tm)  : wpOp Try.prog ops5 Q 14 (fun a' w' => Iv ops5 sp5 ds5 w0 tm (listed.setIfInBounds 14 true) a' w') a w := st_load rg5 h hV (o := o5_14) rfl rfl rfl rfl rfl (by omega) (by omega) rfl (by rw [sz5]; omega)
set_option maxRecDepth 20000 in
theorem s5_15 {w0 : World} {tm : Array Value} {listed : Array Bool} {a : Act} {w : World} {Q : Exit → Act → World → Prop} {rb : Nat → Nat} (h : Iv ops5 sp5 ds5 w0 tm listed a w) (hV : Vr rb w0 tm)  : wpOp Try.prog ops5 Q 15 (fun a' w' => Iv ops5 sp5 ds5 w0 tm (listed.setIfInBounds 15 true) a' w') a w := st_load rg5 h hV (o := o5_15) rfl rfl rfl rfl rfl (by omega) (by omega) rfl (by rw [sz5]; omega)
set_option maxRecDepth 20000 in
theorem s5_16 {w0 : World} {tm : Array Value} {listed : Array Bool} {a : Act} {w : World} {Q : Exit → Act → World → Prop} {rb : Nat → Nat} (h : Iv ops5 sp5 ds5 w0 tm listed a w) (hV : Vr rb w0 tm)  : wpOp Try.prog ops5 Q 16 (fun a' w' => Iv ops5 sp5 ds5 w0 tm (listed.setIfInBounds 16 true) a' w') a w := st_load rg5 h hV (o := o5_16) rfl rfl rfl rfl rfl (by omega) (by omega) rfl (by rw [sz5]; omega)
set_option maxRecDepth 20000 in
theorem s5_17 {w0 : World} {tm : Array Value} {listed : Array Bool} {a : Act} {w : World} {Q : Exit → Act → World → Prop} (h : Iv ops5 sp5 ds5 w0 tm listed a w)  (hr : ∀ e ∈ o5_17.after, Region.binds .any e = true → listed.getD e.on false = true) : wpOp Try.prog ops5 Q 17 (fun a' w' => Iv ops5 sp5 ds5 w0 tm (listed.setIfInBounds 17 true) a' w') a w := by
  have e0 : a.eval (.tmp 34) = .agg #[.int .i64 8, .int .i64 0, .int .i64 2, .int .i64 3] := h.val 13 (by rw [sz5]; omega) (hr ⟨13, .data⟩ (by simp [o5_17]) rfl)
  have e1 : a.eval (.tmp 35) = .agg #[.int .i64 9, .int .i64 0, .int .i64 0, .int .i64 0] := h.val 14 (by rw [sz5]; omega) (hr ⟨14, .data⟩ (by simp [o5_17]) rfl)
  have e2 : a.eval (.tmp 36) = .agg #[.int .i64 10, .int .i64 0, .int .i64 0, .int .i64 0] := h.val 15 (by rw [sz5]; omega) (hr ⟨15, .data⟩ (by simp [o5_17]) rfl)
  have e3 : a.eval (.tmp 37) = .agg #[.int .i64 0, .int .i64 0, .int .i64 0, .int .i64 0] := h.val 16 (by rw [sz5]; omega) (hr ⟨16, .data⟩ (by simp [o5_17]) rfl)
  refine st_row rg5 h (o := o5_17) (l := [(8, 0, 2, 3), (9, 0, 0, 0), (10, 0, 0, 0), (0, 0, 0, 0)]) (cells := #[.int .i64 8, .int .i64 0, .int .i64 2, .int .i64 3, .int .i64 9, .int .i64 0, .int .i64 0, .int .i64 0, .int .i64 10, .int .i64 0, .int .i64 0, .int .i64 0, .int .i64 0, .int .i64 0, .int .i64 0, .int .i64 0]) rfl rfl rfl rfl rfl rfl rfl (by omega) (by omega) (by rw [sz5]; omega) (fun ie z _ _ hsz hzz => ?_) rfl
  subst hzz
  simp only [hsz, List.map_toArray, List.map_cons, List.map_nil, e0, e1, e2, e3]
  kernel_rfl
set_option maxRecDepth 20000 in
theorem s5_18 {w0 : World} {tm : Array Value} {listed : Array Bool} {a : Act} {w : World} {Q : Exit → Act → World → Prop} (h : Iv ops5 sp5 ds5 w0 tm listed a w)   : wpOp Try.prog ops5 Q 18 (fun a' w' => Iv ops5 sp5 ds5 w0 tm (listed.setIfInBounds 18 true) a' w') a w := by
  refine wp_one (o := o5_18) rfl rfl ?_
  unfold o5_18
  go_simp
  go_at_call 19
  refine (rep_any 4 2 w).mono ?_
  rintro e w1 ⟨rfl, hb⟩
  exact h.put rg5.nd rg5.len rg5.lt (i := 18) (by rw [sz5]; omega) hb rfl
set_option maxRecDepth 20000 in
theorem s5_19 {w0 : World} {tm : Array Value} {listed : Array Bool} {a : Act} {w : World} {Q : Exit → Act → World → Prop} {rb : Nat → Nat} (h : Iv ops5 sp5 ds5 w0 tm listed a w) (hV : Vr rb w0 tm)  : wpOp Try.prog ops5 Q 19 (fun a' w' => Iv ops5 sp5 ds5 w0 tm (listed.setIfInBounds 19 true) a' w') a w := st_load rg5 h hV (o := o5_19) rfl rfl rfl rfl rfl (by omega) (by omega) rfl (by rw [sz5]; omega)
set_option maxRecDepth 20000 in
theorem s5_20 {w0 : World} {tm : Array Value} {listed : Array Bool} {a : Act} {w : World} {Q : Exit → Act → World → Prop} (h : Iv ops5 sp5 ds5 w0 tm listed a w)   : wpOp Try.prog ops5 Q 20 (fun a' w' => Iv ops5 sp5 ds5 w0 tm (listed.setIfInBounds 20 true) a' w') a w := by
  refine wp_one (o := o5_20) rfl rfl ?_
  unfold o5_20
  go_simp
  go_at_call 19
  refine (rep_any 2 2 w).mono ?_
  rintro e w1 ⟨rfl, hb⟩
  exact h.put rg5.nd rg5.len rg5.lt (i := 20) (by rw [sz5]; omega) hb rfl
set_option maxRecDepth 20000 in
theorem s5_21 {w0 : World} {tm : Array Value} {listed : Array Bool} {a : Act} {w : World} {Q : Exit → Act → World → Prop} {rb : Nat → Nat} (h : Iv ops5 sp5 ds5 w0 tm listed a w) (hV : Vr rb w0 tm)  : wpOp Try.prog ops5 Q 21 (fun a' w' => Iv ops5 sp5 ds5 w0 tm (listed.setIfInBounds 21 true) a' w') a w := st_load rg5 h hV (o := o5_21) rfl rfl rfl rfl rfl (by omega) (by omega) rfl (by rw [sz5]; omega)
set_option maxRecDepth 20000 in
theorem s5_22 {w0 : World} {tm : Array Value} {listed : Array Bool} {a : Act} {w : World} {Q : Exit → Act → World → Prop} {rb : Nat → Nat} (h : Iv ops5 sp5 ds5 w0 tm listed a w) (hV : Vr rb w0 tm)  : wpOp Try.prog ops5 Q 22 (fun a' w' => Iv ops5 sp5 ds5 w0 tm (listed.setIfInBounds 22 true) a' w') a w := st_load rg5 h hV (o := o5_22) rfl rfl rfl rfl rfl (by omega) (by omega) rfl (by rw [sz5]; omega)
set_option maxRecDepth 20000 in
theorem s5_23 {w0 : World} {tm : Array Value} {listed : Array Bool} {a : Act} {w : World} {Q : Exit → Act → World → Prop} {rb : Nat → Nat} (h : Iv ops5 sp5 ds5 w0 tm listed a w) (hV : Vr rb w0 tm)  : wpOp Try.prog ops5 Q 23 (fun a' w' => Iv ops5 sp5 ds5 w0 tm (listed.setIfInBounds 23 true) a' w') a w := st_load rg5 h hV (o := o5_23) rfl rfl rfl rfl rfl (by omega) (by omega) rfl (by rw [sz5]; omega)
set_option maxRecDepth 20000 in
theorem s5_24 {w0 : World} {tm : Array Value} {listed : Array Bool} {a : Act} {w : World} {Q : Exit → Act → World → Prop} (h : Iv ops5 sp5 ds5 w0 tm listed a w)  (hr : ∀ e ∈ o5_24.after, Region.binds .any e = true → listed.getD e.on false = true) : wpOp Try.prog ops5 Q 24 (fun a' w' => Iv ops5 sp5 ds5 w0 tm (listed.setIfInBounds 24 true) a' w') a w := by
  have e0 : a.eval (.tmp 39) = .agg #[.int .i64 8, .int .i64 0, .int .i64 4, .int .i64 2] := h.val 18 (by rw [sz5]; omega) (hr ⟨18, .data⟩ (by simp [o5_24]) rfl)
  have e1 : a.eval (.tmp 40) = .agg #[.int .i64 1, .int .i64 0, .int .i64 0, .int .i64 0] := h.val 19 (by rw [sz5]; omega) (hr ⟨19, .data⟩ (by simp [o5_24]) rfl)
  have e2 : a.eval (.tmp 41) = .agg #[.int .i64 8, .int .i64 0, .int .i64 2, .int .i64 2] := h.val 20 (by rw [sz5]; omega) (hr ⟨20, .data⟩ (by simp [o5_24]) rfl)
  have e3 : a.eval (.tmp 42) = .agg #[.int .i64 1, .int .i64 0, .int .i64 0, .int .i64 0] := h.val 21 (by rw [sz5]; omega) (hr ⟨21, .data⟩ (by simp [o5_24]) rfl)
  have e4 : a.eval (.tmp 43) = .agg #[.int .i64 1, .int .i64 0, .int .i64 0, .int .i64 0] := h.val 22 (by rw [sz5]; omega) (hr ⟨22, .data⟩ (by simp [o5_24]) rfl)
  have e5 : a.eval (.tmp 44) = .agg #[.int .i64 0, .int .i64 0, .int .i64 0, .int .i64 0] := h.val 23 (by rw [sz5]; omega) (hr ⟨23, .data⟩ (by simp [o5_24]) rfl)
  refine st_row rg5 h (o := o5_24) (l := [(8, 0, 4, 2), (1, 0, 0, 0), (8, 0, 2, 2), (1, 0, 0, 0), (1, 0, 0, 0), (0, 0, 0, 0)]) (cells := #[.int .i64 8, .int .i64 0, .int .i64 4, .int .i64 2, .int .i64 1, .int .i64 0, .int .i64 0, .int .i64 0, .int .i64 8, .int .i64 0, .int .i64 2, .int .i64 2, .int .i64 1, .int .i64 0, .int .i64 0, .int .i64 0, .int .i64 1, .int .i64 0, .int .i64 0, .int .i64 0, .int .i64 0, .int .i64 0, .int .i64 0, .int .i64 0]) rfl rfl rfl rfl rfl rfl rfl (by omega) (by omega) (by rw [sz5]; omega) (fun ie z _ _ hsz hzz => ?_) rfl
  subst hzz
  simp only [hsz, List.map_toArray, List.map_cons, List.map_nil, e0, e1, e2, e3, e4, e5]
  kernel_rfl
set_option maxRecDepth 20000 in
theorem s5_25 {w0 : World} {tm : Array Value} {listed : Array Bool} {a : Act} {w : World} {Q : Exit → Act → World → Prop} (h : Iv ops5 sp5 ds5 w0 tm listed a w)   : wpOp Try.prog ops5 Q 25 (fun a' w' => Iv ops5 sp5 ds5 w0 tm (listed.setIfInBounds 25 true) a' w') a w := by
  refine wp_one (o := o5_25) rfl rfl ?_
  unfold o5_25
  go_simp
  go_at_call 20
  refine (skip_any 2 w).mono ?_
  rintro e w1 ⟨rfl, hb⟩
  exact h.put rg5.nd rg5.len rg5.lt (i := 25) (by rw [sz5]; omega) hb rfl
set_option maxRecDepth 20000 in
theorem s5_26 {w0 : World} {tm : Array Value} {listed : Array Bool} {a : Act} {w : World} {Q : Exit → Act → World → Prop} {rb : Nat → Nat} (h : Iv ops5 sp5 ds5 w0 tm listed a w) (hV : Vr rb w0 tm)  : wpOp Try.prog ops5 Q 26 (fun a' w' => Iv ops5 sp5 ds5 w0 tm (listed.setIfInBounds 26 true) a' w') a w := st_load rg5 h hV (o := o5_26) rfl rfl rfl rfl rfl (by omega) (by omega) rfl (by rw [sz5]; omega)
set_option maxRecDepth 20000 in
theorem s5_27 {w0 : World} {tm : Array Value} {listed : Array Bool} {a : Act} {w : World} {Q : Exit → Act → World → Prop} {rb : Nat → Nat} (h : Iv ops5 sp5 ds5 w0 tm listed a w) (hV : Vr rb w0 tm)  : wpOp Try.prog ops5 Q 27 (fun a' w' => Iv ops5 sp5 ds5 w0 tm (listed.setIfInBounds 27 true) a' w') a w := st_load rg5 h hV (o := o5_27) rfl rfl rfl rfl rfl (by omega) (by omega) rfl (by rw [sz5]; omega)
set_option maxRecDepth 20000 in
theorem s5_28 {w0 : World} {tm : Array Value} {listed : Array Bool} {a : Act} {w : World} {Q : Exit → Act → World → Prop} {rb : Nat → Nat} (h : Iv ops5 sp5 ds5 w0 tm listed a w) (hV : Vr rb w0 tm)  : wpOp Try.prog ops5 Q 28 (fun a' w' => Iv ops5 sp5 ds5 w0 tm (listed.setIfInBounds 28 true) a' w') a w := st_load rg5 h hV (o := o5_28) rfl rfl rfl rfl rfl (by omega) (by omega) rfl (by rw [sz5]; omega)
set_option maxRecDepth 20000 in
theorem s5_29 {w0 : World} {tm : Array Value} {listed : Array Bool} {a : Act} {w : World} {Q : Exit → Act → World → Prop} {rb : Nat → Nat} (h : Iv ops5 sp5 ds5 w0 tm listed a w) (hV : Vr rb w0 tm)  : wpOp Try.prog ops5 Q 29 (fun a' w' => Iv ops5 sp5 ds5 w0 tm (listed.setIfInBounds 29 true) a' w') a w := st_load rg5 h hV (o := o5_29) rfl rfl rfl rfl rfl (by omega) (by omega) rfl (by rw [sz5]; omega)
set_option maxRecDepth 20000 in
theorem s5_30 {w0 : World} {tm : Array Value} {listed : Array Bool} {a : Act} {w : World} {Q : Exit → Act → World → Prop} (h : Iv ops5 sp5 ds5 w0 tm listed a w)  (hr : ∀ e ∈ o5_30.after, Region.binds .any e = true → listed.getD e.on false = true) : wpOp Try.prog ops5 Q 30 (fun a' w' => Iv ops5 sp5 ds5 w0 tm (listed.setIfInBounds 30 true) a' w') a w := by
  have e0 : a.eval (.tmp 46) = .agg #[.int .i64 7, .int .i64 0, .int .i64 0, .int .i64 2] := h.val 25 (by rw [sz5]; omega) (hr ⟨25, .data⟩ (by simp [o5_30]) rfl)
  have e1 : a.eval (.tmp 47) = .agg #[.int .i64 9, .int .i64 0, .int .i64 0, .int .i64 0] := h.val 26 (by rw [sz5]; omega) (hr ⟨26, .data⟩ (by simp [o5_30]) rfl)
  have e2 : a.eval (.tmp 48) = .agg #[.int .i64 10, .int .i64 0, .int .i64 0, .int .i64 0] := h.val 27 (by rw [sz5]; omega) (hr ⟨27, .data⟩ (by simp [o5_30]) rfl)
  have e3 : a.eval (.tmp 49) = .agg #[.int .i64 11, .int .i64 0, .int .i64 0, .int .i64 0] := h.val 28 (by rw [sz5]; omega) (hr ⟨28, .data⟩ (by simp [o5_30]) rfl)
  have e4 : a.eval (.tmp 50) = .agg #[.int .i64 0, .int .i64 0, .int .i64 0, .int .i64 0] := h.val 29 (by rw [sz5]; omega) (hr ⟨29, .data⟩ (by simp [o5_30]) rfl)
  refine st_row rg5 h (o := o5_30) (l := [(7, 0, 0, 2), (9, 0, 0, 0), (10, 0, 0, 0), (11, 0, 0, 0), (0, 0, 0, 0)]) (cells := #[.int .i64 7, .int .i64 0, .int .i64 0, .int .i64 2, .int .i64 9, .int .i64 0, .int .i64 0, .int .i64 0, .int .i64 10, .int .i64 0, .int .i64 0, .int .i64 0, .int .i64 11, .int .i64 0, .int .i64 0, .int .i64 0, .int .i64 0, .int .i64 0, .int .i64 0, .int .i64 0]) rfl rfl rfl rfl rfl rfl rfl (by omega) (by omega) (by rw [sz5]; omega) (fun ie z _ _ hsz hzz => ?_) rfl
  subst hzz
  simp only [hsz, List.map_toArray, List.map_cons, List.map_nil, e0, e1, e2, e3, e4]
  kernel_rfl
set_option maxRecDepth 20000 in
theorem s5_31 {w0 : World} {tm : Array Value} {listed : Array Bool} {a : Act} {w : World} {Q : Exit → Act → World → Prop} {rb : Nat → Nat} (h : Iv ops5 sp5 ds5 w0 tm listed a w) (hV : Vr rb w0 tm)  : wpOp Try.prog ops5 Q 31 (fun a' w' => Iv ops5 sp5 ds5 w0 tm (listed.setIfInBounds 31 true) a' w') a w := st_load rg5 h hV (o := o5_31) rfl rfl rfl rfl rfl (by omega) (by omega) rfl (by rw [sz5]; omega)
set_option maxRecDepth 20000 in
theorem s5_32 {w0 : World} {tm : Array Value} {listed : Array Bool} {a : Act} {w : World} {Q : Exit → Act → World → Prop} (h : Iv ops5 sp5 ds5 w0 tm listed a w)   : wpOp Try.prog ops5 Q 32 (fun a' w' => Iv ops5 sp5 ds5 w0 tm (listed.setIfInBounds 32 true) a' w') a w := by
  refine wp_one (o := o5_32) rfl rfl ?_
  unfold o5_32
  go_simp
  go_at_call 19
  refine (rep_any 1 2 w).mono ?_
  rintro e w1 ⟨rfl, hb⟩
  exact h.put rg5.nd rg5.len rg5.lt (i := 32) (by rw [sz5]; omega) hb rfl
set_option maxRecDepth 20000 in
theorem s5_33 {w0 : World} {tm : Array Value} {listed : Array Bool} {a : Act} {w : World} {Q : Exit → Act → World → Prop} {rb : Nat → Nat} (h : Iv ops5 sp5 ds5 w0 tm listed a w) (hV : Vr rb w0 tm)  : wpOp Try.prog ops5 Q 33 (fun a' w' => Iv ops5 sp5 ds5 w0 tm (listed.setIfInBounds 33 true) a' w') a w := st_load rg5 h hV (o := o5_33) rfl rfl rfl rfl rfl (by omega) (by omega) rfl (by rw [sz5]; omega)
set_option maxRecDepth 20000 in
theorem s5_34 {w0 : World} {tm : Array Value} {listed : Array Bool} {a : Act} {w : World} {Q : Exit → Act → World → Prop} (h : Iv ops5 sp5 ds5 w0 tm listed a w)   : wpOp Try.prog ops5 Q 34 (fun a' w' => Iv ops5 sp5 ds5 w0 tm (listed.setIfInBounds 34 true) a' w') a w := by
  refine wp_one (o := o5_34) rfl rfl ?_
  unfold o5_34
  go_simp
  go_at_call 20
  refine (skip_any 1 w).mono ?_
  rintro e w1 ⟨rfl, hb⟩
  exact h.put rg5.nd rg5.len rg5.lt (i := 34) (by rw [sz5]; omega) hb rfl
set_option maxRecDepth 20000 in
theorem s5_35 {w0 : World} {tm : Array Value} {listed : Array Bool} {a : Act} {w : World} {Q : Exit → Act → World → Prop} {rb : Nat → Nat} (h : Iv ops5 sp5 ds5 w0 tm listed a w) (hV : Vr rb w0 tm)  : wpOp Try.prog ops5 Q 35 (fun a' w' => Iv ops5 sp5 ds5 w0 tm (listed.setIfInBounds 35 true) a' w') a w := st_load rg5 h hV (o := o5_35) rfl rfl rfl rfl rfl (by omega) (by omega) rfl (by rw [sz5]; omega)
set_option maxRecDepth 20000 in
theorem s5_36 {w0 : World} {tm : Array Value} {listed : Array Bool} {a : Act} {w : World} {Q : Exit → Act → World → Prop} {rb : Nat → Nat} (h : Iv ops5 sp5 ds5 w0 tm listed a w) (hV : Vr rb w0 tm)  : wpOp Try.prog ops5 Q 36 (fun a' w' => Iv ops5 sp5 ds5 w0 tm (listed.setIfInBounds 36 true) a' w') a w := st_load rg5 h hV (o := o5_36) rfl rfl rfl rfl rfl (by omega) (by omega) rfl (by rw [sz5]; omega)
set_option maxRecDepth 20000 in
theorem s5_37 {w0 : World} {tm : Array Value} {listed : Array Bool} {a : Act} {w : World} {Q : Exit → Act → World → Prop} {rb : Nat → Nat} (h : Iv ops5 sp5 ds5 w0 tm listed a w) (hV : Vr rb w0 tm)  : wpOp Try.prog ops5 Q 37 (fun a' w' => Iv ops5 sp5 ds5 w0 tm (listed.setIfInBounds 37 true) a' w') a w := st_load rg5 h hV (o := o5_37) rfl rfl rfl rfl rfl (by omega) (by omega) rfl (by rw [sz5]; omega)
set_option maxRecDepth 20000 in
theorem s5_38 {w0 : World} {tm : Array Value} {listed : Array Bool} {a : Act} {w : World} {Q : Exit → Act → World → Prop} (h : Iv ops5 sp5 ds5 w0 tm listed a w)  (hr : ∀ e ∈ o5_38.after, Region.binds .any e = true → listed.getD e.on false = true) : wpOp Try.prog ops5 Q 38 (fun a' w' => Iv ops5 sp5 ds5 w0 tm (listed.setIfInBounds 38 true) a' w') a w := by
  have e0 : a.eval (.tmp 52) = .agg #[.int .i64 9, .int .i64 0, .int .i64 0, .int .i64 0] := h.val 31 (by rw [sz5]; omega) (hr ⟨31, .data⟩ (by simp [o5_38]) rfl)
  have e1 : a.eval (.tmp 53) = .agg #[.int .i64 8, .int .i64 0, .int .i64 1, .int .i64 2] := h.val 32 (by rw [sz5]; omega) (hr ⟨32, .data⟩ (by simp [o5_38]) rfl)
  have e2 : a.eval (.tmp 54) = .agg #[.int .i64 1, .int .i64 0, .int .i64 0, .int .i64 0] := h.val 33 (by rw [sz5]; omega) (hr ⟨33, .data⟩ (by simp [o5_38]) rfl)
  have e3 : a.eval (.tmp 55) = .agg #[.int .i64 7, .int .i64 0, .int .i64 0, .int .i64 1] := h.val 34 (by rw [sz5]; omega) (hr ⟨34, .data⟩ (by simp [o5_38]) rfl)
  have e4 : a.eval (.tmp 56) = .agg #[.int .i64 1, .int .i64 0, .int .i64 0, .int .i64 0] := h.val 35 (by rw [sz5]; omega) (hr ⟨35, .data⟩ (by simp [o5_38]) rfl)
  have e5 : a.eval (.tmp 57) = .agg #[.int .i64 10, .int .i64 0, .int .i64 0, .int .i64 0] := h.val 36 (by rw [sz5]; omega) (hr ⟨36, .data⟩ (by simp [o5_38]) rfl)
  have e6 : a.eval (.tmp 58) = .agg #[.int .i64 0, .int .i64 0, .int .i64 0, .int .i64 0] := h.val 37 (by rw [sz5]; omega) (hr ⟨37, .data⟩ (by simp [o5_38]) rfl)
  refine st_row rg5 h (o := o5_38) (l := [(9, 0, 0, 0), (8, 0, 1, 2), (1, 0, 0, 0), (7, 0, 0, 1), (1, 0, 0, 0), (10, 0, 0, 0), (0, 0, 0, 0)]) (cells := #[.int .i64 9, .int .i64 0, .int .i64 0, .int .i64 0, .int .i64 8, .int .i64 0, .int .i64 1, .int .i64 2, .int .i64 1, .int .i64 0, .int .i64 0, .int .i64 0, .int .i64 7, .int .i64 0, .int .i64 0, .int .i64 1, .int .i64 1, .int .i64 0, .int .i64 0, .int .i64 0, .int .i64 10, .int .i64 0, .int .i64 0, .int .i64 0, .int .i64 0, .int .i64 0, .int .i64 0, .int .i64 0]) rfl rfl rfl rfl rfl rfl rfl (by omega) (by omega) (by rw [sz5]; omega) (fun ie z _ _ hsz hzz => ?_) rfl
  subst hzz
  simp only [hsz, List.map_toArray, List.map_cons, List.map_nil, e0, e1, e2, e3, e4, e5, e6]
  kernel_rfl
set_option maxRecDepth 20000 in
theorem s5_39 {w0 : World} {tm : Array Value} {listed : Array Bool} {a : Act} {w : World} {Q : Exit → Act → World → Prop} (h : Iv ops5 sp5 ds5 w0 tm listed a w)   : wpOp Try.prog ops5 Q 39 (fun a' w' => Iv ops5 sp5 ds5 w0 tm (listed.setIfInBounds 39 true) a' w') a w := by
  refine wp_one (o := o5_39) rfl rfl ?_
  unfold o5_39
  go_simp
  go_at_call 19
  refine (rep_any 3 2 w).mono ?_
  rintro e w1 ⟨rfl, hb⟩
  exact h.put rg5.nd rg5.len rg5.lt (i := 39) (by rw [sz5]; omega) hb rfl
set_option maxRecDepth 20000 in
theorem s5_40 {w0 : World} {tm : Array Value} {listed : Array Bool} {a : Act} {w : World} {Q : Exit → Act → World → Prop} (h : Iv ops5 sp5 ds5 w0 tm listed a w)   : wpOp Try.prog ops5 Q 40 (fun a' w' => Iv ops5 sp5 ds5 w0 tm (listed.setIfInBounds 40 true) a' w') a w := by
  refine wp_one (o := o5_40) rfl rfl ?_
  unfold o5_40
  go_simp
  go_at_call 20
  refine (skip_any 2 w).mono ?_
  rintro e w1 ⟨rfl, hb⟩
  exact h.put rg5.nd rg5.len rg5.lt (i := 40) (by rw [sz5]; omega) hb rfl
set_option maxRecDepth 20000 in
theorem s5_41 {w0 : World} {tm : Array Value} {listed : Array Bool} {a : Act} {w : World} {Q : Exit → Act → World → Prop} {rb : Nat → Nat} (h : Iv ops5 sp5 ds5 w0 tm listed a w) (hV : Vr rb w0 tm)  : wpOp Try.prog ops5 Q 41 (fun a' w' => Iv ops5 sp5 ds5 w0 tm (listed.setIfInBounds 41 true) a' w') a w := st_load rg5 h hV (o := o5_41) rfl rfl rfl rfl rfl (by omega) (by omega) rfl (by rw [sz5]; omega)
set_option maxRecDepth 20000 in
theorem s5_42 {w0 : World} {tm : Array Value} {listed : Array Bool} {a : Act} {w : World} {Q : Exit → Act → World → Prop} {rb : Nat → Nat} (h : Iv ops5 sp5 ds5 w0 tm listed a w) (hV : Vr rb w0 tm)  : wpOp Try.prog ops5 Q 42 (fun a' w' => Iv ops5 sp5 ds5 w0 tm (listed.setIfInBounds 42 true) a' w') a w := st_load rg5 h hV (o := o5_42) rfl rfl rfl rfl rfl (by omega) (by omega) rfl (by rw [sz5]; omega)
set_option maxRecDepth 20000 in
theorem s5_43 {w0 : World} {tm : Array Value} {listed : Array Bool} {a : Act} {w : World} {Q : Exit → Act → World → Prop} {rb : Nat → Nat} (h : Iv ops5 sp5 ds5 w0 tm listed a w) (hV : Vr rb w0 tm)  : wpOp Try.prog ops5 Q 43 (fun a' w' => Iv ops5 sp5 ds5 w0 tm (listed.setIfInBounds 43 true) a' w') a w := st_load rg5 h hV (o := o5_43) rfl rfl rfl rfl rfl (by omega) (by omega) rfl (by rw [sz5]; omega)
set_option maxRecDepth 20000 in
theorem s5_44 {w0 : World} {tm : Array Value} {listed : Array Bool} {a : Act} {w : World} {Q : Exit → Act → World → Prop} (h : Iv ops5 sp5 ds5 w0 tm listed a w)  (hr : ∀ e ∈ o5_44.after, Region.binds .any e = true → listed.getD e.on false = true) : wpOp Try.prog ops5 Q 44 (fun a' w' => Iv ops5 sp5 ds5 w0 tm (listed.setIfInBounds 44 true) a' w') a w := by
  have e0 : a.eval (.tmp 60) = .agg #[.int .i64 8, .int .i64 0, .int .i64 3, .int .i64 2] := h.val 39 (by rw [sz5]; omega) (hr ⟨39, .data⟩ (by simp [o5_44]) rfl)
  have e1 : a.eval (.tmp 61) = .agg #[.int .i64 7, .int .i64 0, .int .i64 0, .int .i64 2] := h.val 40 (by rw [sz5]; omega) (hr ⟨40, .data⟩ (by simp [o5_44]) rfl)
  have e2 : a.eval (.tmp 62) = .agg #[.int .i64 1, .int .i64 0, .int .i64 0, .int .i64 0] := h.val 41 (by rw [sz5]; omega) (hr ⟨41, .data⟩ (by simp [o5_44]) rfl)
  have e3 : a.eval (.tmp 63) = .agg #[.int .i64 1, .int .i64 0, .int .i64 0, .int .i64 0] := h.val 42 (by rw [sz5]; omega) (hr ⟨42, .data⟩ (by simp [o5_44]) rfl)
  have e4 : a.eval (.tmp 64) = .agg #[.int .i64 0, .int .i64 0, .int .i64 0, .int .i64 0] := h.val 43 (by rw [sz5]; omega) (hr ⟨43, .data⟩ (by simp [o5_44]) rfl)
  refine st_row rg5 h (o := o5_44) (l := [(8, 0, 3, 2), (7, 0, 0, 2), (1, 0, 0, 0), (1, 0, 0, 0), (0, 0, 0, 0)]) (cells := #[.int .i64 8, .int .i64 0, .int .i64 3, .int .i64 2, .int .i64 7, .int .i64 0, .int .i64 0, .int .i64 2, .int .i64 1, .int .i64 0, .int .i64 0, .int .i64 0, .int .i64 1, .int .i64 0, .int .i64 0, .int .i64 0, .int .i64 0, .int .i64 0, .int .i64 0, .int .i64 0]) rfl rfl rfl rfl rfl rfl rfl (by omega) (by omega) (by rw [sz5]; omega) (fun ie z _ _ hsz hzz => ?_) rfl
  subst hzz
  simp only [hsz, List.map_toArray, List.map_cons, List.map_nil, e0, e1, e2, e3, e4]
  kernel_rfl
theorem fill5_45 (b0 b1 b2 b3 b4 b5 b6 b7 : Nat) : Instr.fill (fun i => some (i * 1, 1)) ((Array.range (8 * 1)).map ((Value.slice none 0 0).cells[· % (Value.slice none 0 0).cells.size]!)) [(0, Value.slice (some ⟨b0, 0, none⟩) 1 1), (1, Value.slice (some ⟨b1, 0, none⟩) 3 3), (2, Value.slice (some ⟨b2, 0, none⟩) 6 6), (3, Value.slice (some ⟨b3, 0, none⟩) 4 4), (4, Value.slice (some ⟨b4, 0, none⟩) 6 6), (5, Value.slice (some ⟨b5, 0, none⟩) 5 5), (6, Value.slice (some ⟨b6, 0, none⟩) 7 7), (7, Value.slice (some ⟨b7, 0, none⟩) 5 5)] = some #[Value.slice (some ⟨b0, 0, none⟩) 1 1, Value.slice (some ⟨b1, 0, none⟩) 3 3, Value.slice (some ⟨b2, 0, none⟩) 6 6, Value.slice (some ⟨b3, 0, none⟩) 4 4, Value.slice (some ⟨b4, 0, none⟩) 6 6, Value.slice (some ⟨b5, 0, none⟩) 5 5, Value.slice (some ⟨b6, 0, none⟩) 7 7, Value.slice (some ⟨b7, 0, none⟩) 5 5] := by kernel_rfl
set_option maxRecDepth 20000 in
theorem s5_45 {w0 : World} {tm : Array Value} {listed : Array Bool} {a : Act} {w : World} {Q : Exit → Act → World → Prop} (h : Iv ops5 sp5 ds5 w0 tm listed a w)  (hr : ∀ e ∈ o5_45.after, Region.binds .any e = true → listed.getD e.on false = true) : wpOp Try.prog ops5 Q 45 (fun a' w' => Iv ops5 sp5 ds5 w0 tm (listed.setIfInBounds 45 true) a' w') a w := by
  obtain ⟨b0, e0, r0⟩ := h.val 1 (by rw [sz5]; omega) (hr ⟨1, .data⟩ (by simp [o5_45]) rfl)
  have e0 : a.eval (.tmp 22) = .slice (some ⟨b0, 0, none⟩) 1 1 := e0
  obtain ⟨b1, e1, r1⟩ := h.val 5 (by rw [sz5]; omega) (hr ⟨5, .data⟩ (by simp [o5_45]) rfl)
  have e1 : a.eval (.tmp 26) = .slice (some ⟨b1, 0, none⟩) 3 3 := e1
  obtain ⟨b2, e2, r2⟩ := h.val 12 (by rw [sz5]; omega) (hr ⟨12, .data⟩ (by simp [o5_45]) rfl)
  have e2 : a.eval (.tmp 33) = .slice (some ⟨b2, 0, none⟩) 6 6 := e2
  obtain ⟨b3, e3, r3⟩ := h.val 17 (by rw [sz5]; omega) (hr ⟨17, .data⟩ (by simp [o5_45]) rfl)
  have e3 : a.eval (.tmp 38) = .slice (some ⟨b3, 0, none⟩) 4 4 := e3
  obtain ⟨b4, e4, r4⟩ := h.val 24 (by rw [sz5]; omega) (hr ⟨24, .data⟩ (by simp [o5_45]) rfl)
  have e4 : a.eval (.tmp 45) = .slice (some ⟨b4, 0, none⟩) 6 6 := e4
  obtain ⟨b5, e5, r5⟩ := h.val 30 (by rw [sz5]; omega) (hr ⟨30, .data⟩ (by simp [o5_45]) rfl)
  have e5 : a.eval (.tmp 51) = .slice (some ⟨b5, 0, none⟩) 5 5 := e5
  obtain ⟨b6, e6, r6⟩ := h.val 38 (by rw [sz5]; omega) (hr ⟨38, .data⟩ (by simp [o5_45]) rfl)
  have e6 : a.eval (.tmp 59) = .slice (some ⟨b6, 0, none⟩) 7 7 := e6
  obtain ⟨b7, e7, r7⟩ := h.val 44 (by rw [sz5]; omega) (hr ⟨44, .data⟩ (by simp [o5_45]) rfl)
  have e7 : a.eval (.tmp 65) = .slice (some ⟨b7, 0, none⟩) 5 5 := e7
  refine st_lots rg5 h (o := o5_45) (L := [[(0, 0, 0, 0)], [(11, 0, 0, 0), (11, 0, 0, 0), (0, 0, 0, 0)], [(9, 0, 0, 0), (9, 1, 0, 0), (1, 0, 0, 0), (10, 1, 0, 0), (10, 0, 0, 0), (0, 0, 0, 0)], [(8, 0, 2, 3), (9, 0, 0, 0), (10, 0, 0, 0), (0, 0, 0, 0)], [(8, 0, 4, 2), (1, 0, 0, 0), (8, 0, 2, 2), (1, 0, 0, 0), (1, 0, 0, 0), (0, 0, 0, 0)], [(7, 0, 0, 2), (9, 0, 0, 0), (10, 0, 0, 0), (11, 0, 0, 0), (0, 0, 0, 0)], [(9, 0, 0, 0), (8, 0, 1, 2), (1, 0, 0, 0), (7, 0, 0, 1), (1, 0, 0, 0), (10, 0, 0, 0), (0, 0, 0, 0)], [(8, 0, 3, 2), (7, 0, 0, 2), (1, 0, 0, 0), (1, 0, 0, 0), (0, 0, 0, 0)]]) (cells := #[.slice (some ⟨b0, 0, none⟩) 1 1, .slice (some ⟨b1, 0, none⟩) 3 3, .slice (some ⟨b2, 0, none⟩) 6 6, .slice (some ⟨b3, 0, none⟩) 4 4, .slice (some ⟨b4, 0, none⟩) 6 6, .slice (some ⟨b5, 0, none⟩) 5 5, .slice (some ⟨b6, 0, none⟩) 7 7, .slice (some ⟨b7, 0, none⟩) 5 5]) rfl rfl rfl rfl rfl rfl rfl (by omega) (by omega) (by rw [sz5]; omega) (fun ie z _ _ hsz hzz => ?_) (fun k hk => ?_)
  · subst hzz
    have ec : a.eval (.const (.slice none 0 0)) = .slice none 0 0 := rfl
    simp only [hsz, List.map_toArray, List.map_cons, List.map_nil, e0, e1, e2, e3, e4, e5, e6, e7]
    exact fill5_45 b0 b1 b2 b3 b4 b5 b6 b7
  · have : k = 0 ∨ k = 1 ∨ k = 2 ∨ k = 3 ∨ k = 4 ∨ k = 5 ∨ k = 6 ∨ k = 7 := by simp at hk; omega
    rcases this with rfl | rfl | rfl | rfl | rfl | rfl | rfl | rfl
    · exact ⟨_, _, rfl, r0⟩
    · exact ⟨_, _, rfl, r1⟩
    · exact ⟨_, _, rfl, r2⟩
    · exact ⟨_, _, rfl, r3⟩
    · exact ⟨_, _, rfl, r4⟩
    · exact ⟨_, _, rfl, r5⟩
    · exact ⟨_, _, rfl, r6⟩
    · exact ⟨_, _, rfl, r7⟩
set_option maxRecDepth 20000 in
theorem s5_46 {w0 : World} {tm : Array Value} {listed : Array Bool} {a : Act} {w : World} {Q : Exit → Act → World → Prop} (h : Iv ops5 sp5 ds5 w0 tm listed a w)  (hr : ∀ e ∈ o5_46.after, Region.binds .any e = true → listed.getD e.on false = true) : wpOp Try.prog ops5 Q 46 (fun a' w' => Iv ops5 sp5 ds5 w0 tm (listed.setIfInBounds 46 true) a' w') a w := st_assign rg5 h (o := o5_46) (j := 45) rfl rfl rfl rfl rfl (by rw [sz5]; omega) (hr ⟨45, .data⟩ (by simp [o5_46]) rfl) rfl rfl (by rw [sz5]; omega)
theorem step5 {w0 : World} {tm : Array Value} {listed : Array Bool} {a : Act} {w : World} {Q : Exit → Act → World → Prop} {rb : Nat → Nat} (h : Iv ops5 sp5 ds5 w0 tm listed a w) (hV : Vr rb w0 tm) : ∀ (i : Nat) (o : Oper), i < 47 → ops5[i]? = some o → (∀ e ∈ o.after, Region.binds .any e = true → listed.getD e.on false = true) → wpOp Try.prog ops5 Q i (fun a' w' => Iv ops5 sp5 ds5 w0 tm (listed.setIfInBounds i true) a' w') a w
  | 0, o, _, ho, hr => by
    obtain rfl : o5_0 = o := Option.some.inj ho
    exact s5_0 h hV
  | 1, o, _, ho, hr => by
    obtain rfl : o5_1 = o := Option.some.inj ho
    exact s5_1 h hr
  | 2, o, _, ho, hr => by
    obtain rfl : o5_2 = o := Option.some.inj ho
    exact s5_2 h hV
  | 3, o, _, ho, hr => by
    obtain rfl : o5_3 = o := Option.some.inj ho
    exact s5_3 h hV
  | 4, o, _, ho, hr => by
    obtain rfl : o5_4 = o := Option.some.inj ho
    exact s5_4 h hV
  | 5, o, _, ho, hr => by
    obtain rfl : o5_5 = o := Option.some.inj ho
    exact s5_5 h hr
  | 6, o, _, ho, hr => by
    obtain rfl : o5_6 = o := Option.some.inj ho
    exact s5_6 h hV
  | 7, o, _, ho, hr => by
    obtain rfl : o5_7 = o := Option.some.inj ho
    exact s5_7 h hV
  | 8, o, _, ho, hr => by
    obtain rfl : o5_8 = o := Option.some.inj ho
    exact s5_8 h hV
  | 9, o, _, ho, hr => by
    obtain rfl : o5_9 = o := Option.some.inj ho
    exact s5_9 h hV
  | 10, o, _, ho, hr => by
    obtain rfl : o5_10 = o := Option.some.inj ho
    exact s5_10 h hV
  | 11, o, _, ho, hr => by
    obtain rfl : o5_11 = o := Option.some.inj ho
    exact s5_11 h hV
  | 12, o, _, ho, hr => by
    obtain rfl : o5_12 = o := Option.some.inj ho
    exact s5_12 h hr
  | 13, o, _, ho, hr => by
    obtain rfl : o5_13 = o := Option.some.inj ho
    exact s5_13 h
  | 14, o, _, ho, hr => by
    obtain rfl : o5_14 = o := Option.some.inj ho
    exact s5_14 h hV
  | 15, o, _, ho, hr => by
    obtain rfl : o5_15 = o := Option.some.inj ho
    exact s5_15 h hV
  | 16, o, _, ho, hr => by
    obtain rfl : o5_16 = o := Option.some.inj ho
    exact s5_16 h hV
  | 17, o, _, ho, hr => by
    obtain rfl : o5_17 = o := Option.some.inj ho
    exact s5_17 h hr
  | 18, o, _, ho, hr => by
    obtain rfl : o5_18 = o := Option.some.inj ho
    exact s5_18 h
  | 19, o, _, ho, hr => by
    obtain rfl : o5_19 = o := Option.some.inj ho
    exact s5_19 h hV
  | 20, o, _, ho, hr => by
    obtain rfl : o5_20 = o := Option.some.inj ho
    exact s5_20 h
  | 21, o, _, ho, hr => by
    obtain rfl : o5_21 = o := Option.some.inj ho
    exact s5_21 h hV
  | 22, o, _, ho, hr => by
    obtain rfl : o5_22 = o := Option.some.inj ho
    exact s5_22 h hV
  | 23, o, _, ho, hr => by
    obtain rfl : o5_23 = o := Option.some.inj ho
    exact s5_23 h hV
  | 24, o, _, ho, hr => by
    obtain rfl : o5_24 = o := Option.some.inj ho
    exact s5_24 h hr
  | 25, o, _, ho, hr => by
    obtain rfl : o5_25 = o := Option.some.inj ho
    exact s5_25 h
  | 26, o, _, ho, hr => by
    obtain rfl : o5_26 = o := Option.some.inj ho
    exact s5_26 h hV
  | 27, o, _, ho, hr => by
    obtain rfl : o5_27 = o := Option.some.inj ho
    exact s5_27 h hV
  | 28, o, _, ho, hr => by
    obtain rfl : o5_28 = o := Option.some.inj ho
    exact s5_28 h hV
  | 29, o, _, ho, hr => by
    obtain rfl : o5_29 = o := Option.some.inj ho
    exact s5_29 h hV
  | 30, o, _, ho, hr => by
    obtain rfl : o5_30 = o := Option.some.inj ho
    exact s5_30 h hr
  | 31, o, _, ho, hr => by
    obtain rfl : o5_31 = o := Option.some.inj ho
    exact s5_31 h hV
  | 32, o, _, ho, hr => by
    obtain rfl : o5_32 = o := Option.some.inj ho
    exact s5_32 h
  | 33, o, _, ho, hr => by
    obtain rfl : o5_33 = o := Option.some.inj ho
    exact s5_33 h hV
  | 34, o, _, ho, hr => by
    obtain rfl : o5_34 = o := Option.some.inj ho
    exact s5_34 h
  | 35, o, _, ho, hr => by
    obtain rfl : o5_35 = o := Option.some.inj ho
    exact s5_35 h hV
  | 36, o, _, ho, hr => by
    obtain rfl : o5_36 = o := Option.some.inj ho
    exact s5_36 h hV
  | 37, o, _, ho, hr => by
    obtain rfl : o5_37 = o := Option.some.inj ho
    exact s5_37 h hV
  | 38, o, _, ho, hr => by
    obtain rfl : o5_38 = o := Option.some.inj ho
    exact s5_38 h hr
  | 39, o, _, ho, hr => by
    obtain rfl : o5_39 = o := Option.some.inj ho
    exact s5_39 h
  | 40, o, _, ho, hr => by
    obtain rfl : o5_40 = o := Option.some.inj ho
    exact s5_40 h
  | 41, o, _, ho, hr => by
    obtain rfl : o5_41 = o := Option.some.inj ho
    exact s5_41 h hV
  | 42, o, _, ho, hr => by
    obtain rfl : o5_42 = o := Option.some.inj ho
    exact s5_42 h hV
  | 43, o, _, ho, hr => by
    obtain rfl : o5_43 = o := Option.some.inj ho
    exact s5_43 h hV
  | 44, o, _, ho, hr => by
    obtain rfl : o5_44 = o := Option.some.inj ho
    exact s5_44 h hr
  | 45, o, _, ho, hr => by
    obtain rfl : o5_45 = o := Option.some.inj ho
    exact s5_45 h hr
  | 46, o, _, ho, hr => by
    obtain rfl : o5_46 = o := Option.some.inj ho
    exact s5_46 h hr
  | i + 47, _, h, _, _ => absurd h (by omega)
set_option maxRecDepth 100000 in
theorem ahead5 : ∀ (i : Nat) (o : Oper), ops5[i]? = some o → ∀ e ∈ o.after, e.on < i := by
  have hb : ((List.range 47).all fun i => (ops5.getD i default).after.all fun e => decide (e.on < i)) = true := by kernel_rfl
  intro i o ho e he
  have hi : i < 47 := by
    have := (Array.getElem?_eq_some_iff.1 ho).1
    rw [sz5] at this
    exact this
  have h1 := List.all_eq_true.1 hb i (by simpa using hi)
  have h2 : ops5.getD i default = o := by rw [Array.getD_eq_getD_getElem?, ho]; rfl
  rw [h2] at h1
  have h3 := (Array.all_eq_true_iff_forall_mem.1 h1) e he
  exact of_decide_eq_true h3
end Go.Proofs.Yteikdocpncdheaa
