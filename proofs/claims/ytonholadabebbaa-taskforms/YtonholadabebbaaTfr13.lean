/-
  The drawn region 13 of the law TaskForms: each operation's value.
-/
import Derived.Test.YtonholadabebbaaTfgen
namespace Go.Proofs.Ytonholadabebbaa
open Go.ChangeShapes Go.WideShapes Go.ChangeAt Go.RowKit
set_option linter.unusedVariables false
attribute [local go_sem ↓] Go.wp_at_zero Go.wp_at_succ

def o13_0 : Oper := { dst := some 75, op := Op.move (Operand.tmp 7), type := 32, pos := "law.go:78", after := #[], guard := none }
def o13_1 : Oper := { dst := some 76, op := Op.move (Operand.tmp 7), type := 32, pos := "law.go:78", after := #[{ on := 16, ground := Ground.gcOnly Departure.lateStores }], guard := none }
def o13_2 : Oper := { dst := some 77, op := Op.move (Operand.tmp 7), type := 32, pos := "law.go:78", after := #[{ on := 19, ground := Ground.gcOnly Departure.lateStores }], guard := none }
def o13_3 : Oper := { dst := some 78, op := Op.move (Operand.tmp 7), type := 32, pos := "law.go:78", after := #[{ on := 22, ground := Ground.gcOnly Departure.lateStores }], guard := none }
def o13_4 : Oper := { dst := some 79, op := Op.move (Operand.tmp 7), type := 32, pos := "law.go:78", after := #[{ on := 25, ground := Ground.gcOnly Departure.lateStores }], guard := none }
def o13_5 : Oper := { dst := some 80, op := Op.load 42 (Operand.tmp 3), type := 42, pos := "law.go:78", after := #[], guard := none }
def o13_6 : Oper := { dst := some 81, op := Op.load 42 (Operand.tmp 4), type := 42, pos := "law.go:78", after := #[], guard := none }
def o13_7 : Oper := { dst := some 82, op := Op.load 42 (Operand.tmp 1), type := 42, pos := "law.go:78", after := #[], guard := none }
def o13_8 : Oper := { dst := some 83, op := Op.buildSlice 22 3 #[(0, Operand.tmp 80), (1, Operand.tmp 81), (2, Operand.tmp 82)], type := 22, pos := "law.go:78", after := #[{ on := 5, ground := Ground.data }, { on := 6, ground := Ground.data }, { on := 7, ground := Ground.data }], guard := none }
def o13_9 : Oper := { dst := some 84, op := Op.load 42 (Operand.tmp 2), type := 42, pos := "law.go:78", after := #[], guard := none }
def o13_10 : Oper := { dst := some 85, op := Op.load 42 (Operand.tmp 2), type := 42, pos := "law.go:78", after := #[], guard := none }
def o13_11 : Oper := { dst := some 86, op := Op.load 42 (Operand.tmp 2), type := 42, pos := "law.go:78", after := #[], guard := none }
def o13_12 : Oper := { dst := some 87, op := Op.load 42 (Operand.tmp 1), type := 42, pos := "law.go:78", after := #[], guard := none }
def o13_13 : Oper := { dst := some 88, op := Op.buildSlice 22 4 #[(0, Operand.tmp 84), (1, Operand.tmp 85), (2, Operand.tmp 86), (3, Operand.tmp 87)], type := 22, pos := "law.go:78", after := #[{ on := 9, ground := Ground.data }, { on := 10, ground := Ground.data }, { on := 11, ground := Ground.data }, { on := 12, ground := Ground.data }], guard := none }
def o13_14 : Oper := { dst := some 89, op := Op.indexAddr 32 (Operand.tmp 75) (Operand.const (Value.int IntKind.i64 10)), type := 0, pos := "law.go:78", after := #[{ on := 0, ground := Ground.data }, { on := 0, ground := Ground.phase }, { on := 1, ground := Ground.textOnly Departure.lateStores }, { on := 2, ground := Ground.textOnly Departure.lateStores }, { on := 3, ground := Ground.textOnly Departure.lateStores }, { on := 4, ground := Ground.textOnly Departure.lateStores }, { on := 5, ground := Ground.phase }, { on := 6, ground := Ground.phase }, { on := 7, ground := Ground.phase }, { on := 8, ground := Ground.phase }, { on := 9, ground := Ground.textOnly Departure.lateStores }, { on := 10, ground := Ground.textOnly Departure.lateStores }, { on := 11, ground := Ground.textOnly Departure.lateStores }, { on := 12, ground := Ground.textOnly Departure.lateStores }, { on := 13, ground := Ground.textOnly Departure.lateStoresUnsure }], guard := none }
def o13_15 : Oper := { dst := some 90, op := Op.fieldAddr 24 (Operand.tmp 89) 5, type := 0, pos := "law.go:78", after := #[{ on := 14, ground := Ground.data }, { on := 0, ground := Ground.phase }, { on := 1, ground := Ground.textOnly Departure.lateStores }, { on := 2, ground := Ground.textOnly Departure.lateStores }, { on := 3, ground := Ground.textOnly Departure.lateStores }, { on := 4, ground := Ground.textOnly Departure.lateStores }, { on := 5, ground := Ground.phase }, { on := 6, ground := Ground.phase }, { on := 7, ground := Ground.phase }, { on := 8, ground := Ground.phase }, { on := 9, ground := Ground.textOnly Departure.lateStores }, { on := 10, ground := Ground.textOnly Departure.lateStores }, { on := 11, ground := Ground.textOnly Departure.lateStores }, { on := 12, ground := Ground.textOnly Departure.lateStores }, { on := 13, ground := Ground.textOnly Departure.lateStoresUnsure }], guard := none }
def o13_16 : Oper := { dst := none, op := Op.store 22 (Operand.tmp 90) (Operand.tmp 83), type := 0, pos := "law.go:78", after := #[{ on := 15, ground := Ground.data }, { on := 8, ground := Ground.data }, { on := 0, ground := Ground.phase }, { on := 1, ground := Ground.textOnly Departure.lateStores }, { on := 2, ground := Ground.textOnly Departure.lateStores }, { on := 3, ground := Ground.textOnly Departure.lateStores }, { on := 4, ground := Ground.textOnly Departure.lateStores }, { on := 5, ground := Ground.phase }, { on := 6, ground := Ground.phase }, { on := 7, ground := Ground.phase }, { on := 8, ground := Ground.phase }, { on := 9, ground := Ground.textOnly Departure.lateStores }, { on := 10, ground := Ground.textOnly Departure.lateStores }, { on := 11, ground := Ground.textOnly Departure.lateStores }, { on := 12, ground := Ground.textOnly Departure.lateStores }, { on := 13, ground := Ground.textOnly Departure.lateStoresUnsure }], guard := none }
def o13_17 : Oper := { dst := some 91, op := Op.indexAddr 32 (Operand.tmp 76) (Operand.const (Value.int IntKind.i64 11)), type := 0, pos := "law.go:78", after := #[{ on := 1, ground := Ground.data }, { on := 0, ground := Ground.phase }, { on := 1, ground := Ground.phase }, { on := 2, ground := Ground.textOnly Departure.lateStores }, { on := 3, ground := Ground.textOnly Departure.lateStores }, { on := 4, ground := Ground.textOnly Departure.lateStores }, { on := 5, ground := Ground.phase }, { on := 6, ground := Ground.phase }, { on := 7, ground := Ground.phase }, { on := 8, ground := Ground.phase }, { on := 9, ground := Ground.textOnly Departure.lateStores }, { on := 10, ground := Ground.textOnly Departure.lateStores }, { on := 11, ground := Ground.textOnly Departure.lateStores }, { on := 12, ground := Ground.textOnly Departure.lateStores }, { on := 13, ground := Ground.textOnly Departure.lateStoresUnsure }, { on := 14, ground := Ground.phase }, { on := 15, ground := Ground.phase }, { on := 16, ground := Ground.phase }], guard := none }
def o13_18 : Oper := { dst := some 92, op := Op.fieldAddr 24 (Operand.tmp 91) 2, type := 0, pos := "law.go:78", after := #[{ on := 17, ground := Ground.data }, { on := 0, ground := Ground.phase }, { on := 1, ground := Ground.phase }, { on := 2, ground := Ground.textOnly Departure.lateStores }, { on := 3, ground := Ground.textOnly Departure.lateStores }, { on := 4, ground := Ground.textOnly Departure.lateStores }, { on := 5, ground := Ground.phase }, { on := 6, ground := Ground.phase }, { on := 7, ground := Ground.phase }, { on := 8, ground := Ground.phase }, { on := 9, ground := Ground.textOnly Departure.lateStores }, { on := 10, ground := Ground.textOnly Departure.lateStores }, { on := 11, ground := Ground.textOnly Departure.lateStores }, { on := 12, ground := Ground.textOnly Departure.lateStores }, { on := 13, ground := Ground.textOnly Departure.lateStoresUnsure }, { on := 14, ground := Ground.phase }, { on := 15, ground := Ground.phase }, { on := 16, ground := Ground.phase }], guard := none }
def o13_19 : Oper := { dst := none, op := Op.store 2 (Operand.tmp 92) (Operand.const (Value.int IntKind.i64 2)), type := 0, pos := "law.go:78", after := #[{ on := 18, ground := Ground.data }, { on := 16, ground := Ground.chain }, { on := 0, ground := Ground.phase }, { on := 1, ground := Ground.phase }, { on := 2, ground := Ground.textOnly Departure.lateStores }, { on := 3, ground := Ground.textOnly Departure.lateStores }, { on := 4, ground := Ground.textOnly Departure.lateStores }, { on := 5, ground := Ground.phase }, { on := 6, ground := Ground.phase }, { on := 7, ground := Ground.phase }, { on := 8, ground := Ground.phase }, { on := 9, ground := Ground.textOnly Departure.lateStores }, { on := 10, ground := Ground.textOnly Departure.lateStores }, { on := 11, ground := Ground.textOnly Departure.lateStores }, { on := 12, ground := Ground.textOnly Departure.lateStores }, { on := 13, ground := Ground.textOnly Departure.lateStoresUnsure }, { on := 14, ground := Ground.phase }, { on := 15, ground := Ground.phase }, { on := 16, ground := Ground.phase }], guard := none }
def o13_20 : Oper := { dst := some 93, op := Op.indexAddr 32 (Operand.tmp 77) (Operand.const (Value.int IntKind.i64 12)), type := 0, pos := "law.go:78", after := #[{ on := 2, ground := Ground.data }, { on := 0, ground := Ground.phase }, { on := 1, ground := Ground.phase }, { on := 2, ground := Ground.phase }, { on := 3, ground := Ground.textOnly Departure.lateStores }, { on := 4, ground := Ground.textOnly Departure.lateStores }, { on := 5, ground := Ground.phase }, { on := 6, ground := Ground.phase }, { on := 7, ground := Ground.phase }, { on := 8, ground := Ground.phase }, { on := 9, ground := Ground.phase }, { on := 10, ground := Ground.phase }, { on := 11, ground := Ground.phase }, { on := 12, ground := Ground.phase }, { on := 13, ground := Ground.phase }, { on := 14, ground := Ground.phase }, { on := 15, ground := Ground.phase }, { on := 16, ground := Ground.phase }, { on := 17, ground := Ground.phase }, { on := 18, ground := Ground.phase }, { on := 19, ground := Ground.phase }], guard := none }
def o13_21 : Oper := { dst := some 94, op := Op.fieldAddr 24 (Operand.tmp 93) 4, type := 0, pos := "law.go:78", after := #[{ on := 20, ground := Ground.data }, { on := 0, ground := Ground.phase }, { on := 1, ground := Ground.phase }, { on := 2, ground := Ground.phase }, { on := 3, ground := Ground.textOnly Departure.lateStores }, { on := 4, ground := Ground.textOnly Departure.lateStores }, { on := 5, ground := Ground.phase }, { on := 6, ground := Ground.phase }, { on := 7, ground := Ground.phase }, { on := 8, ground := Ground.phase }, { on := 9, ground := Ground.phase }, { on := 10, ground := Ground.phase }, { on := 11, ground := Ground.phase }, { on := 12, ground := Ground.phase }, { on := 13, ground := Ground.phase }, { on := 14, ground := Ground.phase }, { on := 15, ground := Ground.phase }, { on := 16, ground := Ground.phase }, { on := 17, ground := Ground.phase }, { on := 18, ground := Ground.phase }, { on := 19, ground := Ground.phase }], guard := none }
def o13_22 : Oper := { dst := none, op := Op.store 22 (Operand.tmp 94) (Operand.tmp 88), type := 0, pos := "law.go:78", after := #[{ on := 21, ground := Ground.data }, { on := 13, ground := Ground.data }, { on := 19, ground := Ground.chain }, { on := 0, ground := Ground.phase }, { on := 1, ground := Ground.phase }, { on := 2, ground := Ground.phase }, { on := 3, ground := Ground.textOnly Departure.lateStores }, { on := 4, ground := Ground.textOnly Departure.lateStores }, { on := 5, ground := Ground.phase }, { on := 6, ground := Ground.phase }, { on := 7, ground := Ground.phase }, { on := 8, ground := Ground.phase }, { on := 9, ground := Ground.phase }, { on := 10, ground := Ground.phase }, { on := 11, ground := Ground.phase }, { on := 12, ground := Ground.phase }, { on := 13, ground := Ground.phase }, { on := 14, ground := Ground.phase }, { on := 15, ground := Ground.phase }, { on := 16, ground := Ground.phase }, { on := 17, ground := Ground.phase }, { on := 18, ground := Ground.phase }, { on := 19, ground := Ground.phase }], guard := none }
def o13_23 : Oper := { dst := some 95, op := Op.indexAddr 32 (Operand.tmp 78) (Operand.const (Value.int IntKind.i64 13)), type := 0, pos := "law.go:78", after := #[{ on := 3, ground := Ground.data }, { on := 0, ground := Ground.phase }, { on := 1, ground := Ground.phase }, { on := 2, ground := Ground.phase }, { on := 3, ground := Ground.phase }, { on := 4, ground := Ground.textOnly Departure.lateStores }, { on := 5, ground := Ground.phase }, { on := 6, ground := Ground.phase }, { on := 7, ground := Ground.phase }, { on := 8, ground := Ground.phase }, { on := 9, ground := Ground.phase }, { on := 10, ground := Ground.phase }, { on := 11, ground := Ground.phase }, { on := 12, ground := Ground.phase }, { on := 13, ground := Ground.phase }, { on := 14, ground := Ground.phase }, { on := 15, ground := Ground.phase }, { on := 16, ground := Ground.phase }, { on := 17, ground := Ground.phase }, { on := 18, ground := Ground.phase }, { on := 19, ground := Ground.phase }, { on := 20, ground := Ground.phase }, { on := 21, ground := Ground.phase }, { on := 22, ground := Ground.phase }], guard := none }
def o13_24 : Oper := { dst := some 96, op := Op.fieldAddr 24 (Operand.tmp 95) 0, type := 0, pos := "law.go:78", after := #[{ on := 23, ground := Ground.data }, { on := 0, ground := Ground.phase }, { on := 1, ground := Ground.phase }, { on := 2, ground := Ground.phase }, { on := 3, ground := Ground.phase }, { on := 4, ground := Ground.textOnly Departure.lateStores }, { on := 5, ground := Ground.phase }, { on := 6, ground := Ground.phase }, { on := 7, ground := Ground.phase }, { on := 8, ground := Ground.phase }, { on := 9, ground := Ground.phase }, { on := 10, ground := Ground.phase }, { on := 11, ground := Ground.phase }, { on := 12, ground := Ground.phase }, { on := 13, ground := Ground.phase }, { on := 14, ground := Ground.phase }, { on := 15, ground := Ground.phase }, { on := 16, ground := Ground.phase }, { on := 17, ground := Ground.phase }, { on := 18, ground := Ground.phase }, { on := 19, ground := Ground.phase }, { on := 20, ground := Ground.phase }, { on := 21, ground := Ground.phase }, { on := 22, ground := Ground.phase }], guard := none }
def o13_25 : Oper := { dst := none, op := Op.store 3 (Operand.tmp 96) (Operand.const (Value.int IntKind.i64 (-1))), type := 0, pos := "law.go:78", after := #[{ on := 24, ground := Ground.data }, { on := 22, ground := Ground.chain }, { on := 0, ground := Ground.phase }, { on := 1, ground := Ground.phase }, { on := 2, ground := Ground.phase }, { on := 3, ground := Ground.phase }, { on := 4, ground := Ground.textOnly Departure.lateStores }, { on := 5, ground := Ground.phase }, { on := 6, ground := Ground.phase }, { on := 7, ground := Ground.phase }, { on := 8, ground := Ground.phase }, { on := 9, ground := Ground.phase }, { on := 10, ground := Ground.phase }, { on := 11, ground := Ground.phase }, { on := 12, ground := Ground.phase }, { on := 13, ground := Ground.phase }, { on := 14, ground := Ground.phase }, { on := 15, ground := Ground.phase }, { on := 16, ground := Ground.phase }, { on := 17, ground := Ground.phase }, { on := 18, ground := Ground.phase }, { on := 19, ground := Ground.phase }, { on := 20, ground := Ground.phase }, { on := 21, ground := Ground.phase }, { on := 22, ground := Ground.phase }], guard := none }
def o13_26 : Oper := { dst := some 97, op := Op.indexAddr 32 (Operand.tmp 79) (Operand.const (Value.int IntKind.i64 14)), type := 0, pos := "law.go:78", after := #[{ on := 4, ground := Ground.data }, { on := 0, ground := Ground.phase }, { on := 1, ground := Ground.phase }, { on := 2, ground := Ground.phase }, { on := 3, ground := Ground.phase }, { on := 4, ground := Ground.phase }, { on := 5, ground := Ground.phase }, { on := 6, ground := Ground.phase }, { on := 7, ground := Ground.phase }, { on := 8, ground := Ground.phase }, { on := 9, ground := Ground.phase }, { on := 10, ground := Ground.phase }, { on := 11, ground := Ground.phase }, { on := 12, ground := Ground.phase }, { on := 13, ground := Ground.phase }, { on := 14, ground := Ground.phase }, { on := 15, ground := Ground.phase }, { on := 16, ground := Ground.phase }, { on := 17, ground := Ground.phase }, { on := 18, ground := Ground.phase }, { on := 19, ground := Ground.phase }, { on := 20, ground := Ground.phase }, { on := 21, ground := Ground.phase }, { on := 22, ground := Ground.phase }, { on := 23, ground := Ground.phase }, { on := 24, ground := Ground.phase }, { on := 25, ground := Ground.phase }], guard := none }
def o13_27 : Oper := { dst := some 98, op := Op.fieldAddr 24 (Operand.tmp 97) 3, type := 0, pos := "law.go:78", after := #[{ on := 26, ground := Ground.data }, { on := 0, ground := Ground.phase }, { on := 1, ground := Ground.phase }, { on := 2, ground := Ground.phase }, { on := 3, ground := Ground.phase }, { on := 4, ground := Ground.phase }, { on := 5, ground := Ground.phase }, { on := 6, ground := Ground.phase }, { on := 7, ground := Ground.phase }, { on := 8, ground := Ground.phase }, { on := 9, ground := Ground.phase }, { on := 10, ground := Ground.phase }, { on := 11, ground := Ground.phase }, { on := 12, ground := Ground.phase }, { on := 13, ground := Ground.phase }, { on := 14, ground := Ground.phase }, { on := 15, ground := Ground.phase }, { on := 16, ground := Ground.phase }, { on := 17, ground := Ground.phase }, { on := 18, ground := Ground.phase }, { on := 19, ground := Ground.phase }, { on := 20, ground := Ground.phase }, { on := 21, ground := Ground.phase }, { on := 22, ground := Ground.phase }, { on := 23, ground := Ground.phase }, { on := 24, ground := Ground.phase }, { on := 25, ground := Ground.phase }], guard := none }
def o13_28 : Oper := { dst := none, op := Op.store 22 (Operand.tmp 98) (Operand.const (Value.slice none 0 0)), type := 0, pos := "law.go:78", after := #[{ on := 27, ground := Ground.data }, { on := 25, ground := Ground.chain }, { on := 0, ground := Ground.phase }, { on := 1, ground := Ground.phase }, { on := 2, ground := Ground.phase }, { on := 3, ground := Ground.phase }, { on := 4, ground := Ground.phase }, { on := 5, ground := Ground.phase }, { on := 6, ground := Ground.phase }, { on := 7, ground := Ground.phase }, { on := 8, ground := Ground.phase }, { on := 9, ground := Ground.phase }, { on := 10, ground := Ground.phase }, { on := 11, ground := Ground.phase }, { on := 12, ground := Ground.phase }, { on := 13, ground := Ground.phase }, { on := 14, ground := Ground.phase }, { on := 15, ground := Ground.phase }, { on := 16, ground := Ground.phase }, { on := 17, ground := Ground.phase }, { on := 18, ground := Ground.phase }, { on := 19, ground := Ground.phase }, { on := 20, ground := Ground.phase }, { on := 21, ground := Ground.phase }, { on := 22, ground := Ground.phase }, { on := 23, ground := Ground.phase }, { on := 24, ground := Ground.phase }, { on := 25, ground := Ground.phase }], guard := none }
def ops13 : Array Oper := #[o13_0, o13_1, o13_2, o13_3, o13_4, o13_5, o13_6, o13_7, o13_8, o13_9, o13_10, o13_11, o13_12, o13_13, o13_14, o13_15, o13_16, o13_17, o13_18, o13_19, o13_20, o13_21, o13_22, o13_23, o13_24, o13_25, o13_26, o13_27, o13_28]
def sp13 (g : Nat) (bm : Option Addr) : List Sp := [.val (.slice (some ⟨g, 0, none⟩) 15 15), .val (.slice (some ⟨g, 0, none⟩) 15 15), .val (.slice (some ⟨g, 0, none⟩) 15 15), .val (.slice (some ⟨g, 0, none⟩) 15 15), .val (.slice (some ⟨g, 0, none⟩) 15 15), .val (.agg (aC (vars4 3))), .val (.agg (aC (vars4 4))), .val (.agg (aC (vars4 1))), .prog [(9, 0, 0, 0), (10, 0, 0, 0), (0, 0, 0, 0)], .val (.agg (aC (vars4 2))), .val (.agg (aC (vars4 2))), .val (.agg (aC (vars4 2))), .val (.agg (aC (vars4 1))), .prog [(1, 0, 0, 0), (1, 0, 0, 0), (1, 0, 0, 0), (0, 0, 0, 0)], .val (.pointer (some ⟨g, 60, none⟩)), .val (.pointer (some ⟨g, 65, none⟩)), .stp 10 (fun q => ⟨63, 16384, 3, bm, 3, 3, bm, 3, 3, q, 3, 3⟩) [(9, 0, 0, 0), (10, 0, 0, 0), (0, 0, 0, 0)], .val (.pointer (some ⟨g, 66, none⟩)), .val (.pointer (some ⟨g, 68, none⟩)), .stv 11 ⟨63, 16384, 2, bm, 3, 3, bm, 3, 3, bm, 3, 3⟩, .val (.pointer (some ⟨g, 72, none⟩)), .val (.pointer (some ⟨g, 76, none⟩)), .stp 12 (fun q => ⟨63, 16384, 3, bm, 3, 3, q, 4, 4, bm, 3, 3⟩) [(1, 0, 0, 0), (1, 0, 0, 0), (1, 0, 0, 0), (0, 0, 0, 0)], .val (.pointer (some ⟨g, 78, none⟩)), .val (.pointer (some ⟨g, 78, none⟩)), .stv 13 ⟨-1, 16384, 3, bm, 3, 3, bm, 3, 3, bm, 3, 3⟩, .val (.pointer (some ⟨g, 84, none⟩)), .val (.pointer (some ⟨g, 87, none⟩)), .stv 14 ⟨63, 16384, 3, none, 0, 0, bm, 3, 3, bm, 3, 3⟩]
def ds13 : List Nat := [75, 76, 77, 78, 79, 80, 81, 82, 83, 84, 85, 86, 87, 88, 89, 90, 1016, 91, 92, 1019, 93, 94, 1022, 95, 96, 1025, 97, 98, 1028]
def tl13 : List (Option Nat) := [none, none, none, none, none, none, none, none, none, none, none, none, none, none, none, none, some 10, none, none, some 11, none, none, some 12, none, none, some 13, none, none, some 14]
theorem sz13 : ops13.size = 29 := rfl
set_option maxRecDepth 100000 in
theorem uq13 : ∀ i, i < 29 → ∀ j, j < 29 → tl13.getD i none ≠ none → tl13.getD i none = tl13.getD j none → i = j := by decide +kernel
set_option maxRecDepth 100000 in
theorem nd13 : ds13.Nodup := by decide +kernel
theorem rg13 (g : Nat) (bm : Option Addr) : Rg ops13 (sp13 g bm) ds13 := ⟨nd13, rfl, fun i hi j hj h1 h2 => by
  have e : (sp13 g bm).map tgt = tl13 := rfl
  rw [tgt_getD, e] at h1 h2
  rw [tgt_getD, e] at h2
  exact uq13 i hi j hj h1 h2⟩
set_option maxRecDepth 20000 in
theorem s13_0 {g : Nat} {bm : Option Addr} {base : Nat} {P0 : List Tv} {rb : Nat → Nat} {w0 : World} {tm : Array Value} {listed : Array Bool} {a : Act} {w : World} {Q : Exit → Act → World → Prop} (h : Iv ops13 (sp13 g bm) ds13 g base P0 w0 tm listed a w) (hg0 : g < w0.heap.size) (hV : Vr g rb w0 tm) (hP : ∀ k, 10 ≤ k → k < 15 → P0[k]? = some (⟨63, 16384, 3, bm, 3, 3, bm, 3, 3, bm, 3, 3⟩ : Tv)) (hl : listed.getD 0 true = false) (hr : ∀ e ∈ o13_0.after, Region.binds .any e = true → listed.getD e.on false = true) : wpOp Try.prog ops13 Q 0 (fun a' w' => Iv ops13 (sp13 g bm) ds13 g base P0 w0 tm (listed.setIfInBounds 0 true) a' w') a w := st_move (rg13 g bm) h hg0 (o := o13_0) rfl rfl rfl rfl rfl (by omega) (by decide +kernel) hV.bad rfl (by rw [sz13]; omega)
set_option maxRecDepth 20000 in
theorem s13_1 {g : Nat} {bm : Option Addr} {base : Nat} {P0 : List Tv} {rb : Nat → Nat} {w0 : World} {tm : Array Value} {listed : Array Bool} {a : Act} {w : World} {Q : Exit → Act → World → Prop} (h : Iv ops13 (sp13 g bm) ds13 g base P0 w0 tm listed a w) (hg0 : g < w0.heap.size) (hV : Vr g rb w0 tm) (hP : ∀ k, 10 ≤ k → k < 15 → P0[k]? = some (⟨63, 16384, 3, bm, 3, 3, bm, 3, 3, bm, 3, 3⟩ : Tv)) (hl : listed.getD 1 true = false) (hr : ∀ e ∈ o13_1.after, Region.binds .any e = true → listed.getD e.on false = true) : wpOp Try.prog ops13 Q 1 (fun a' w' => Iv ops13 (sp13 g bm) ds13 g base P0 w0 tm (listed.setIfInBounds 1 true) a' w') a w := st_move (rg13 g bm) h hg0 (o := o13_1) rfl rfl rfl rfl rfl (by omega) (by decide +kernel) hV.bad rfl (by rw [sz13]; omega)
set_option maxRecDepth 20000 in
theorem s13_2 {g : Nat} {bm : Option Addr} {base : Nat} {P0 : List Tv} {rb : Nat → Nat} {w0 : World} {tm : Array Value} {listed : Array Bool} {a : Act} {w : World} {Q : Exit → Act → World → Prop} (h : Iv ops13 (sp13 g bm) ds13 g base P0 w0 tm listed a w) (hg0 : g < w0.heap.size) (hV : Vr g rb w0 tm) (hP : ∀ k, 10 ≤ k → k < 15 → P0[k]? = some (⟨63, 16384, 3, bm, 3, 3, bm, 3, 3, bm, 3, 3⟩ : Tv)) (hl : listed.getD 2 true = false) (hr : ∀ e ∈ o13_2.after, Region.binds .any e = true → listed.getD e.on false = true) : wpOp Try.prog ops13 Q 2 (fun a' w' => Iv ops13 (sp13 g bm) ds13 g base P0 w0 tm (listed.setIfInBounds 2 true) a' w') a w := st_move (rg13 g bm) h hg0 (o := o13_2) rfl rfl rfl rfl rfl (by omega) (by decide +kernel) hV.bad rfl (by rw [sz13]; omega)
set_option maxRecDepth 20000 in
theorem s13_3 {g : Nat} {bm : Option Addr} {base : Nat} {P0 : List Tv} {rb : Nat → Nat} {w0 : World} {tm : Array Value} {listed : Array Bool} {a : Act} {w : World} {Q : Exit → Act → World → Prop} (h : Iv ops13 (sp13 g bm) ds13 g base P0 w0 tm listed a w) (hg0 : g < w0.heap.size) (hV : Vr g rb w0 tm) (hP : ∀ k, 10 ≤ k → k < 15 → P0[k]? = some (⟨63, 16384, 3, bm, 3, 3, bm, 3, 3, bm, 3, 3⟩ : Tv)) (hl : listed.getD 3 true = false) (hr : ∀ e ∈ o13_3.after, Region.binds .any e = true → listed.getD e.on false = true) : wpOp Try.prog ops13 Q 3 (fun a' w' => Iv ops13 (sp13 g bm) ds13 g base P0 w0 tm (listed.setIfInBounds 3 true) a' w') a w := st_move (rg13 g bm) h hg0 (o := o13_3) rfl rfl rfl rfl rfl (by omega) (by decide +kernel) hV.bad rfl (by rw [sz13]; omega)
set_option maxRecDepth 20000 in
theorem s13_4 {g : Nat} {bm : Option Addr} {base : Nat} {P0 : List Tv} {rb : Nat → Nat} {w0 : World} {tm : Array Value} {listed : Array Bool} {a : Act} {w : World} {Q : Exit → Act → World → Prop} (h : Iv ops13 (sp13 g bm) ds13 g base P0 w0 tm listed a w) (hg0 : g < w0.heap.size) (hV : Vr g rb w0 tm) (hP : ∀ k, 10 ≤ k → k < 15 → P0[k]? = some (⟨63, 16384, 3, bm, 3, 3, bm, 3, 3, bm, 3, 3⟩ : Tv)) (hl : listed.getD 4 true = false) (hr : ∀ e ∈ o13_4.after, Region.binds .any e = true → listed.getD e.on false = true) : wpOp Try.prog ops13 Q 4 (fun a' w' => Iv ops13 (sp13 g bm) ds13 g base P0 w0 tm (listed.setIfInBounds 4 true) a' w') a w := st_move (rg13 g bm) h hg0 (o := o13_4) rfl rfl rfl rfl rfl (by omega) (by decide +kernel) hV.bad rfl (by rw [sz13]; omega)
set_option maxRecDepth 20000 in
theorem s13_5 {g : Nat} {bm : Option Addr} {base : Nat} {P0 : List Tv} {rb : Nat → Nat} {w0 : World} {tm : Array Value} {listed : Array Bool} {a : Act} {w : World} {Q : Exit → Act → World → Prop} (h : Iv ops13 (sp13 g bm) ds13 g base P0 w0 tm listed a w) (hg0 : g < w0.heap.size) (hV : Vr g rb w0 tm) (hP : ∀ k, 10 ≤ k → k < 15 → P0[k]? = some (⟨63, 16384, 3, bm, 3, 3, bm, 3, 3, bm, 3, 3⟩ : Tv)) (hl : listed.getD 5 true = false) (hr : ∀ e ∈ o13_5.after, Region.binds .any e = true → listed.getD e.on false = true) : wpOp Try.prog ops13 Q 5 (fun a' w' => Iv ops13 (sp13 g bm) ds13 g base P0 w0 tm (listed.setIfInBounds 5 true) a' w') a w := st_load (rg13 g bm) h hg0 hV (o := o13_5) rfl rfl rfl rfl rfl (by omega) (by decide +kernel) (by omega) (by omega) rfl (by rw [sz13]; omega)
set_option maxRecDepth 20000 in
theorem s13_6 {g : Nat} {bm : Option Addr} {base : Nat} {P0 : List Tv} {rb : Nat → Nat} {w0 : World} {tm : Array Value} {listed : Array Bool} {a : Act} {w : World} {Q : Exit → Act → World → Prop} (h : Iv ops13 (sp13 g bm) ds13 g base P0 w0 tm listed a w) (hg0 : g < w0.heap.size) (hV : Vr g rb w0 tm) (hP : ∀ k, 10 ≤ k → k < 15 → P0[k]? = some (⟨63, 16384, 3, bm, 3, 3, bm, 3, 3, bm, 3, 3⟩ : Tv)) (hl : listed.getD 6 true = false) (hr : ∀ e ∈ o13_6.after, Region.binds .any e = true → listed.getD e.on false = true) : wpOp Try.prog ops13 Q 6 (fun a' w' => Iv ops13 (sp13 g bm) ds13 g base P0 w0 tm (listed.setIfInBounds 6 true) a' w') a w := st_load (rg13 g bm) h hg0 hV (o := o13_6) rfl rfl rfl rfl rfl (by omega) (by decide +kernel) (by omega) (by omega) rfl (by rw [sz13]; omega)
set_option maxRecDepth 20000 in
theorem s13_7 {g : Nat} {bm : Option Addr} {base : Nat} {P0 : List Tv} {rb : Nat → Nat} {w0 : World} {tm : Array Value} {listed : Array Bool} {a : Act} {w : World} {Q : Exit → Act → World → Prop} (h : Iv ops13 (sp13 g bm) ds13 g base P0 w0 tm listed a w) (hg0 : g < w0.heap.size) (hV : Vr g rb w0 tm) (hP : ∀ k, 10 ≤ k → k < 15 → P0[k]? = some (⟨63, 16384, 3, bm, 3, 3, bm, 3, 3, bm, 3, 3⟩ : Tv)) (hl : listed.getD 7 true = false) (hr : ∀ e ∈ o13_7.after, Region.binds .any e = true → listed.getD e.on false = true) : wpOp Try.prog ops13 Q 7 (fun a' w' => Iv ops13 (sp13 g bm) ds13 g base P0 w0 tm (listed.setIfInBounds 7 true) a' w') a w := st_load (rg13 g bm) h hg0 hV (o := o13_7) rfl rfl rfl rfl rfl (by omega) (by decide +kernel) (by omega) (by omega) rfl (by rw [sz13]; omega)
set_option maxRecDepth 20000 in
theorem s13_8 {g : Nat} {bm : Option Addr} {base : Nat} {P0 : List Tv} {rb : Nat → Nat} {w0 : World} {tm : Array Value} {listed : Array Bool} {a : Act} {w : World} {Q : Exit → Act → World → Prop} (h : Iv ops13 (sp13 g bm) ds13 g base P0 w0 tm listed a w) (hg0 : g < w0.heap.size) (hV : Vr g rb w0 tm) (hP : ∀ k, 10 ≤ k → k < 15 → P0[k]? = some (⟨63, 16384, 3, bm, 3, 3, bm, 3, 3, bm, 3, 3⟩ : Tv)) (hl : listed.getD 8 true = false) (hr : ∀ e ∈ o13_8.after, Region.binds .any e = true → listed.getD e.on false = true) : wpOp Try.prog ops13 Q 8 (fun a' w' => Iv ops13 (sp13 g bm) ds13 g base P0 w0 tm (listed.setIfInBounds 8 true) a' w') a w := by
  have e0 : a.eval (.tmp 80) = .agg #[.int .i64 9, .int .i64 0, .int .i64 0, .int .i64 0] := h.val 5 (by rw [sz13]; omega) (hr ⟨5, .data⟩ (by simp [o13_8]) rfl)
  have e1 : a.eval (.tmp 81) = .agg #[.int .i64 10, .int .i64 0, .int .i64 0, .int .i64 0] := h.val 6 (by rw [sz13]; omega) (hr ⟨6, .data⟩ (by simp [o13_8]) rfl)
  have e2 : a.eval (.tmp 82) = .agg #[.int .i64 0, .int .i64 0, .int .i64 0, .int .i64 0] := h.val 7 (by rw [sz13]; omega) (hr ⟨7, .data⟩ (by simp [o13_8]) rfl)
  refine st_row (rg13 g bm) h hg0 (o := o13_8) (l := [(9, 0, 0, 0), (10, 0, 0, 0), (0, 0, 0, 0)]) (cells := #[.int .i64 9, .int .i64 0, .int .i64 0, .int .i64 0, .int .i64 10, .int .i64 0, .int .i64 0, .int .i64 0, .int .i64 0, .int .i64 0, .int .i64 0, .int .i64 0]) rfl rfl rfl rfl rfl (by omega) rfl rfl (by omega) (by omega) (by rw [sz13]; omega) (fun ie z _ _ hsz hzz => ?_) rfl
  subst hzz
  simp only [hsz, List.map_toArray, List.map_cons, List.map_nil, e0, e1, e2]
  kernel_rfl
set_option maxRecDepth 20000 in
theorem s13_9 {g : Nat} {bm : Option Addr} {base : Nat} {P0 : List Tv} {rb : Nat → Nat} {w0 : World} {tm : Array Value} {listed : Array Bool} {a : Act} {w : World} {Q : Exit → Act → World → Prop} (h : Iv ops13 (sp13 g bm) ds13 g base P0 w0 tm listed a w) (hg0 : g < w0.heap.size) (hV : Vr g rb w0 tm) (hP : ∀ k, 10 ≤ k → k < 15 → P0[k]? = some (⟨63, 16384, 3, bm, 3, 3, bm, 3, 3, bm, 3, 3⟩ : Tv)) (hl : listed.getD 9 true = false) (hr : ∀ e ∈ o13_9.after, Region.binds .any e = true → listed.getD e.on false = true) : wpOp Try.prog ops13 Q 9 (fun a' w' => Iv ops13 (sp13 g bm) ds13 g base P0 w0 tm (listed.setIfInBounds 9 true) a' w') a w := st_load (rg13 g bm) h hg0 hV (o := o13_9) rfl rfl rfl rfl rfl (by omega) (by decide +kernel) (by omega) (by omega) rfl (by rw [sz13]; omega)
set_option maxRecDepth 20000 in
theorem s13_10 {g : Nat} {bm : Option Addr} {base : Nat} {P0 : List Tv} {rb : Nat → Nat} {w0 : World} {tm : Array Value} {listed : Array Bool} {a : Act} {w : World} {Q : Exit → Act → World → Prop} (h : Iv ops13 (sp13 g bm) ds13 g base P0 w0 tm listed a w) (hg0 : g < w0.heap.size) (hV : Vr g rb w0 tm) (hP : ∀ k, 10 ≤ k → k < 15 → P0[k]? = some (⟨63, 16384, 3, bm, 3, 3, bm, 3, 3, bm, 3, 3⟩ : Tv)) (hl : listed.getD 10 true = false) (hr : ∀ e ∈ o13_10.after, Region.binds .any e = true → listed.getD e.on false = true) : wpOp Try.prog ops13 Q 10 (fun a' w' => Iv ops13 (sp13 g bm) ds13 g base P0 w0 tm (listed.setIfInBounds 10 true) a' w') a w := st_load (rg13 g bm) h hg0 hV (o := o13_10) rfl rfl rfl rfl rfl (by omega) (by decide +kernel) (by omega) (by omega) rfl (by rw [sz13]; omega)
set_option maxRecDepth 20000 in
theorem s13_11 {g : Nat} {bm : Option Addr} {base : Nat} {P0 : List Tv} {rb : Nat → Nat} {w0 : World} {tm : Array Value} {listed : Array Bool} {a : Act} {w : World} {Q : Exit → Act → World → Prop} (h : Iv ops13 (sp13 g bm) ds13 g base P0 w0 tm listed a w) (hg0 : g < w0.heap.size) (hV : Vr g rb w0 tm) (hP : ∀ k, 10 ≤ k → k < 15 → P0[k]? = some (⟨63, 16384, 3, bm, 3, 3, bm, 3, 3, bm, 3, 3⟩ : Tv)) (hl : listed.getD 11 true = false) (hr : ∀ e ∈ o13_11.after, Region.binds .any e = true → listed.getD e.on false = true) : wpOp Try.prog ops13 Q 11 (fun a' w' => Iv ops13 (sp13 g bm) ds13 g base P0 w0 tm (listed.setIfInBounds 11 true) a' w') a w := st_load (rg13 g bm) h hg0 hV (o := o13_11) rfl rfl rfl rfl rfl (by omega) (by decide +kernel) (by omega) (by omega) rfl (by rw [sz13]; omega)
set_option maxRecDepth 20000 in
theorem s13_12 {g : Nat} {bm : Option Addr} {base : Nat} {P0 : List Tv} {rb : Nat → Nat} {w0 : World} {tm : Array Value} {listed : Array Bool} {a : Act} {w : World} {Q : Exit → Act → World → Prop} (h : Iv ops13 (sp13 g bm) ds13 g base P0 w0 tm listed a w) (hg0 : g < w0.heap.size) (hV : Vr g rb w0 tm) (hP : ∀ k, 10 ≤ k → k < 15 → P0[k]? = some (⟨63, 16384, 3, bm, 3, 3, bm, 3, 3, bm, 3, 3⟩ : Tv)) (hl : listed.getD 12 true = false) (hr : ∀ e ∈ o13_12.after, Region.binds .any e = true → listed.getD e.on false = true) : wpOp Try.prog ops13 Q 12 (fun a' w' => Iv ops13 (sp13 g bm) ds13 g base P0 w0 tm (listed.setIfInBounds 12 true) a' w') a w := st_load (rg13 g bm) h hg0 hV (o := o13_12) rfl rfl rfl rfl rfl (by omega) (by decide +kernel) (by omega) (by omega) rfl (by rw [sz13]; omega)
set_option maxRecDepth 20000 in
theorem s13_13 {g : Nat} {bm : Option Addr} {base : Nat} {P0 : List Tv} {rb : Nat → Nat} {w0 : World} {tm : Array Value} {listed : Array Bool} {a : Act} {w : World} {Q : Exit → Act → World → Prop} (h : Iv ops13 (sp13 g bm) ds13 g base P0 w0 tm listed a w) (hg0 : g < w0.heap.size) (hV : Vr g rb w0 tm) (hP : ∀ k, 10 ≤ k → k < 15 → P0[k]? = some (⟨63, 16384, 3, bm, 3, 3, bm, 3, 3, bm, 3, 3⟩ : Tv)) (hl : listed.getD 13 true = false) (hr : ∀ e ∈ o13_13.after, Region.binds .any e = true → listed.getD e.on false = true) : wpOp Try.prog ops13 Q 13 (fun a' w' => Iv ops13 (sp13 g bm) ds13 g base P0 w0 tm (listed.setIfInBounds 13 true) a' w') a w := by
  have e0 : a.eval (.tmp 84) = .agg #[.int .i64 1, .int .i64 0, .int .i64 0, .int .i64 0] := h.val 9 (by rw [sz13]; omega) (hr ⟨9, .data⟩ (by simp [o13_13]) rfl)
  have e1 : a.eval (.tmp 85) = .agg #[.int .i64 1, .int .i64 0, .int .i64 0, .int .i64 0] := h.val 10 (by rw [sz13]; omega) (hr ⟨10, .data⟩ (by simp [o13_13]) rfl)
  have e2 : a.eval (.tmp 86) = .agg #[.int .i64 1, .int .i64 0, .int .i64 0, .int .i64 0] := h.val 11 (by rw [sz13]; omega) (hr ⟨11, .data⟩ (by simp [o13_13]) rfl)
  have e3 : a.eval (.tmp 87) = .agg #[.int .i64 0, .int .i64 0, .int .i64 0, .int .i64 0] := h.val 12 (by rw [sz13]; omega) (hr ⟨12, .data⟩ (by simp [o13_13]) rfl)
  refine st_row (rg13 g bm) h hg0 (o := o13_13) (l := [(1, 0, 0, 0), (1, 0, 0, 0), (1, 0, 0, 0), (0, 0, 0, 0)]) (cells := #[.int .i64 1, .int .i64 0, .int .i64 0, .int .i64 0, .int .i64 1, .int .i64 0, .int .i64 0, .int .i64 0, .int .i64 1, .int .i64 0, .int .i64 0, .int .i64 0, .int .i64 0, .int .i64 0, .int .i64 0, .int .i64 0]) rfl rfl rfl rfl rfl (by omega) rfl rfl (by omega) (by omega) (by rw [sz13]; omega) (fun ie z _ _ hsz hzz => ?_) rfl
  subst hzz
  simp only [hsz, List.map_toArray, List.map_cons, List.map_nil, e0, e1, e2, e3]
  kernel_rfl
set_option maxRecDepth 20000 in
theorem s13_14 {g : Nat} {bm : Option Addr} {base : Nat} {P0 : List Tv} {rb : Nat → Nat} {w0 : World} {tm : Array Value} {listed : Array Bool} {a : Act} {w : World} {Q : Exit → Act → World → Prop} (h : Iv ops13 (sp13 g bm) ds13 g base P0 w0 tm listed a w) (hg0 : g < w0.heap.size) (hV : Vr g rb w0 tm) (hP : ∀ k, 10 ≤ k → k < 15 → P0[k]? = some (⟨63, 16384, 3, bm, 3, 3, bm, 3, 3, bm, 3, 3⟩ : Tv)) (hl : listed.getD 14 true = false) (hr : ∀ e ∈ o13_14.after, Region.binds .any e = true → listed.getD e.on false = true) : wpOp Try.prog ops13 Q 14 (fun a' w' => Iv ops13 (sp13 g bm) ds13 g base P0 w0 tm (listed.setIfInBounds 14 true) a' w') a w := by
  have e0 : a.eval (.tmp 75) = .slice (some ⟨g, 0, none⟩) 15 15 := h.val 0 (by rw [sz13]; omega) (hr ⟨0, .data⟩ (by simp [o13_14]) rfl)
  refine st_val (rg13 g bm) h hg0 (o := o13_14) (v := .pointer (some ⟨g, 60, none⟩)) rfl rfl ?_ rfl rfl (by omega) rfl (by rw [sz13]; omega)
  have e1 : a.eval (.const (.int .i64 10)) = .int .i64 10 := rfl
  have e2 := idx_run g 10 (by omega) w
  have e3 : execOp a.eval o13_14 = (do let v ← Instr.indexAt 32 (a.eval (.tmp 75)) (a.eval (.const (.int .i64 10))); pure (.value v)) := rfl
  rw [e3, e0, e1, Sem.run_bind]
  have e4 : (Instr.indexAt 32 (.slice (some ⟨g, 0, none⟩) 15 15) (.int .i64 10)).run Try.prog w = .ok (.pointer (some ⟨g, 60, none⟩)) w := e2
  rw [e4]
  rfl
set_option maxRecDepth 20000 in
theorem s13_15 {g : Nat} {bm : Option Addr} {base : Nat} {P0 : List Tv} {rb : Nat → Nat} {w0 : World} {tm : Array Value} {listed : Array Bool} {a : Act} {w : World} {Q : Exit → Act → World → Prop} (h : Iv ops13 (sp13 g bm) ds13 g base P0 w0 tm listed a w) (hg0 : g < w0.heap.size) (hV : Vr g rb w0 tm) (hP : ∀ k, 10 ≤ k → k < 15 → P0[k]? = some (⟨63, 16384, 3, bm, 3, 3, bm, 3, 3, bm, 3, 3⟩ : Tv)) (hl : listed.getD 15 true = false) (hr : ∀ e ∈ o13_15.after, Region.binds .any e = true → listed.getD e.on false = true) : wpOp Try.prog ops13 Q 15 (fun a' w' => Iv ops13 (sp13 g bm) ds13 g base P0 w0 tm (listed.setIfInBounds 15 true) a' w') a w := by
  have e0 : a.eval (.tmp 89) = .pointer (some ⟨g, 60, none⟩) := h.val 14 (by rw [sz13]; omega) (hr ⟨14, .data⟩ (by simp [o13_15]) rfl)
  refine st_val (rg13 g bm) h hg0 (o := o13_15) (v := .pointer (some ⟨g, 65, none⟩)) rfl rfl ?_ rfl rfl (by omega) rfl (by rw [sz13]; omega)
  have e3 : execOp a.eval o13_15 = (do let v ← Instr.fieldAt 24 (a.eval (.tmp 89)) 5; pure (.value v)) := rfl
  rw [e3, e0, Sem.run_bind]
  have e4 : (Instr.fieldAt 24 (.pointer (some ⟨g, 60, none⟩)) 5).run Try.prog w = .ok (.pointer (some ⟨g, 65, none⟩)) w := fld_run g 60 5 (by omega) w
  rw [e4]
  rfl
set_option maxRecDepth 20000 in
theorem s13_16 {g : Nat} {bm : Option Addr} {base : Nat} {P0 : List Tv} {rb : Nat → Nat} {w0 : World} {tm : Array Value} {listed : Array Bool} {a : Act} {w : World} {Q : Exit → Act → World → Prop} (h : Iv ops13 (sp13 g bm) ds13 g base P0 w0 tm listed a w) (hg0 : g < w0.heap.size) (hV : Vr g rb w0 tm) (hP : ∀ k, 10 ≤ k → k < 15 → P0[k]? = some (⟨63, 16384, 3, bm, 3, 3, bm, 3, 3, bm, 3, 3⟩ : Tv)) (hl : listed.getD 16 true = false) (hr : ∀ e ∈ o13_16.after, Region.binds .any e = true → listed.getD e.on false = true) : wpOp Try.prog ops13 Q 16 (fun a' w' => Iv ops13 (sp13 g bm) ds13 g base P0 w0 tm (listed.setIfInBounds 16 true) a' w') a w := by
  have e0 : a.eval (.tmp 90) = .pointer (some ⟨g, 65, none⟩) := h.val 15 (by rw [sz13]; omega) (hr ⟨15, .data⟩ (by simp [o13_16]) rfl)
  obtain ⟨b, hb, e1, hrd⟩ := h.val 8 (by rw [sz13]; omega) (hr ⟨8, .data⟩ (by simp [o13_16]) rfl)
  have e1 : a.eval (.tmp 83) = .slice (some ⟨b, 0, none⟩) 3 3 := e1
  exact st_sto (rg13 g bm) h hg0 (o := o13_16) (X := (fun q => ⟨63, 16384, 3, bm, 3, 3, bm, 3, 3, q, 3, 3⟩) (some ⟨b, 0, none⟩)) rfl rfl rfl (.inr (.inr rfl)) rfl (by rw [sz13]; omega) hl (k := 10) (by omega) (f := 5) (by omega) (by omega) e0 e1 (.inr ⟨_, _, _, rfl⟩) rfl (hP 10 (by omega) (by omega)) rfl (fun P w' hP hk => ⟨b, hb, hP, rd_kp0 hrd (by omega) hk⟩)
set_option maxRecDepth 20000 in
theorem s13_17 {g : Nat} {bm : Option Addr} {base : Nat} {P0 : List Tv} {rb : Nat → Nat} {w0 : World} {tm : Array Value} {listed : Array Bool} {a : Act} {w : World} {Q : Exit → Act → World → Prop} (h : Iv ops13 (sp13 g bm) ds13 g base P0 w0 tm listed a w) (hg0 : g < w0.heap.size) (hV : Vr g rb w0 tm) (hP : ∀ k, 10 ≤ k → k < 15 → P0[k]? = some (⟨63, 16384, 3, bm, 3, 3, bm, 3, 3, bm, 3, 3⟩ : Tv)) (hl : listed.getD 17 true = false) (hr : ∀ e ∈ o13_17.after, Region.binds .any e = true → listed.getD e.on false = true) : wpOp Try.prog ops13 Q 17 (fun a' w' => Iv ops13 (sp13 g bm) ds13 g base P0 w0 tm (listed.setIfInBounds 17 true) a' w') a w := by
  have e0 : a.eval (.tmp 76) = .slice (some ⟨g, 0, none⟩) 15 15 := h.val 1 (by rw [sz13]; omega) (hr ⟨1, .data⟩ (by simp [o13_17]) rfl)
  refine st_val (rg13 g bm) h hg0 (o := o13_17) (v := .pointer (some ⟨g, 66, none⟩)) rfl rfl ?_ rfl rfl (by omega) rfl (by rw [sz13]; omega)
  have e1 : a.eval (.const (.int .i64 11)) = .int .i64 11 := rfl
  have e2 := idx_run g 11 (by omega) w
  have e3 : execOp a.eval o13_17 = (do let v ← Instr.indexAt 32 (a.eval (.tmp 76)) (a.eval (.const (.int .i64 11))); pure (.value v)) := rfl
  rw [e3, e0, e1, Sem.run_bind]
  have e4 : (Instr.indexAt 32 (.slice (some ⟨g, 0, none⟩) 15 15) (.int .i64 11)).run Try.prog w = .ok (.pointer (some ⟨g, 66, none⟩)) w := e2
  rw [e4]
  rfl
set_option maxRecDepth 20000 in
theorem s13_18 {g : Nat} {bm : Option Addr} {base : Nat} {P0 : List Tv} {rb : Nat → Nat} {w0 : World} {tm : Array Value} {listed : Array Bool} {a : Act} {w : World} {Q : Exit → Act → World → Prop} (h : Iv ops13 (sp13 g bm) ds13 g base P0 w0 tm listed a w) (hg0 : g < w0.heap.size) (hV : Vr g rb w0 tm) (hP : ∀ k, 10 ≤ k → k < 15 → P0[k]? = some (⟨63, 16384, 3, bm, 3, 3, bm, 3, 3, bm, 3, 3⟩ : Tv)) (hl : listed.getD 18 true = false) (hr : ∀ e ∈ o13_18.after, Region.binds .any e = true → listed.getD e.on false = true) : wpOp Try.prog ops13 Q 18 (fun a' w' => Iv ops13 (sp13 g bm) ds13 g base P0 w0 tm (listed.setIfInBounds 18 true) a' w') a w := by
  have e0 : a.eval (.tmp 91) = .pointer (some ⟨g, 66, none⟩) := h.val 17 (by rw [sz13]; omega) (hr ⟨17, .data⟩ (by simp [o13_18]) rfl)
  refine st_val (rg13 g bm) h hg0 (o := o13_18) (v := .pointer (some ⟨g, 68, none⟩)) rfl rfl ?_ rfl rfl (by omega) rfl (by rw [sz13]; omega)
  have e3 : execOp a.eval o13_18 = (do let v ← Instr.fieldAt 24 (a.eval (.tmp 91)) 2; pure (.value v)) := rfl
  rw [e3, e0, Sem.run_bind]
  have e4 : (Instr.fieldAt 24 (.pointer (some ⟨g, 66, none⟩)) 2).run Try.prog w = .ok (.pointer (some ⟨g, 68, none⟩)) w := fld_run g 66 2 (by omega) w
  rw [e4]
  rfl
set_option maxRecDepth 20000 in
theorem s13_19 {g : Nat} {bm : Option Addr} {base : Nat} {P0 : List Tv} {rb : Nat → Nat} {w0 : World} {tm : Array Value} {listed : Array Bool} {a : Act} {w : World} {Q : Exit → Act → World → Prop} (h : Iv ops13 (sp13 g bm) ds13 g base P0 w0 tm listed a w) (hg0 : g < w0.heap.size) (hV : Vr g rb w0 tm) (hP : ∀ k, 10 ≤ k → k < 15 → P0[k]? = some (⟨63, 16384, 3, bm, 3, 3, bm, 3, 3, bm, 3, 3⟩ : Tv)) (hl : listed.getD 19 true = false) (hr : ∀ e ∈ o13_19.after, Region.binds .any e = true → listed.getD e.on false = true) : wpOp Try.prog ops13 Q 19 (fun a' w' => Iv ops13 (sp13 g bm) ds13 g base P0 w0 tm (listed.setIfInBounds 19 true) a' w') a w := by
  have e0 : a.eval (.tmp 92) = .pointer (some ⟨g, 68, none⟩) := h.val 18 (by rw [sz13]; omega) (hr ⟨18, .data⟩ (by simp [o13_19]) rfl)
  exact st_sto (rg13 g bm) h hg0 (o := o13_19) (X := ⟨63, 16384, 2, bm, 3, 3, bm, 3, 3, bm, 3, 3⟩) rfl rfl rfl (.inl rfl) rfl (by rw [sz13]; omega) hl (k := 11) (by omega) (f := 2) (by omega) (by omega) e0 (v := .int .i64 (2)) rfl (.inl ⟨_, _, rfl⟩) rfl (hP 11 (by omega) (by omega)) rfl (fun P w' hP _ => hP)
set_option maxRecDepth 20000 in
theorem s13_20 {g : Nat} {bm : Option Addr} {base : Nat} {P0 : List Tv} {rb : Nat → Nat} {w0 : World} {tm : Array Value} {listed : Array Bool} {a : Act} {w : World} {Q : Exit → Act → World → Prop} (h : Iv ops13 (sp13 g bm) ds13 g base P0 w0 tm listed a w) (hg0 : g < w0.heap.size) (hV : Vr g rb w0 tm) (hP : ∀ k, 10 ≤ k → k < 15 → P0[k]? = some (⟨63, 16384, 3, bm, 3, 3, bm, 3, 3, bm, 3, 3⟩ : Tv)) (hl : listed.getD 20 true = false) (hr : ∀ e ∈ o13_20.after, Region.binds .any e = true → listed.getD e.on false = true) : wpOp Try.prog ops13 Q 20 (fun a' w' => Iv ops13 (sp13 g bm) ds13 g base P0 w0 tm (listed.setIfInBounds 20 true) a' w') a w := by
  have e0 : a.eval (.tmp 77) = .slice (some ⟨g, 0, none⟩) 15 15 := h.val 2 (by rw [sz13]; omega) (hr ⟨2, .data⟩ (by simp [o13_20]) rfl)
  refine st_val (rg13 g bm) h hg0 (o := o13_20) (v := .pointer (some ⟨g, 72, none⟩)) rfl rfl ?_ rfl rfl (by omega) rfl (by rw [sz13]; omega)
  have e1 : a.eval (.const (.int .i64 12)) = .int .i64 12 := rfl
  have e2 := idx_run g 12 (by omega) w
  have e3 : execOp a.eval o13_20 = (do let v ← Instr.indexAt 32 (a.eval (.tmp 77)) (a.eval (.const (.int .i64 12))); pure (.value v)) := rfl
  rw [e3, e0, e1, Sem.run_bind]
  have e4 : (Instr.indexAt 32 (.slice (some ⟨g, 0, none⟩) 15 15) (.int .i64 12)).run Try.prog w = .ok (.pointer (some ⟨g, 72, none⟩)) w := e2
  rw [e4]
  rfl
set_option maxRecDepth 20000 in
theorem s13_21 {g : Nat} {bm : Option Addr} {base : Nat} {P0 : List Tv} {rb : Nat → Nat} {w0 : World} {tm : Array Value} {listed : Array Bool} {a : Act} {w : World} {Q : Exit → Act → World → Prop} (h : Iv ops13 (sp13 g bm) ds13 g base P0 w0 tm listed a w) (hg0 : g < w0.heap.size) (hV : Vr g rb w0 tm) (hP : ∀ k, 10 ≤ k → k < 15 → P0[k]? = some (⟨63, 16384, 3, bm, 3, 3, bm, 3, 3, bm, 3, 3⟩ : Tv)) (hl : listed.getD 21 true = false) (hr : ∀ e ∈ o13_21.after, Region.binds .any e = true → listed.getD e.on false = true) : wpOp Try.prog ops13 Q 21 (fun a' w' => Iv ops13 (sp13 g bm) ds13 g base P0 w0 tm (listed.setIfInBounds 21 true) a' w') a w := by
  have e0 : a.eval (.tmp 93) = .pointer (some ⟨g, 72, none⟩) := h.val 20 (by rw [sz13]; omega) (hr ⟨20, .data⟩ (by simp [o13_21]) rfl)
  refine st_val (rg13 g bm) h hg0 (o := o13_21) (v := .pointer (some ⟨g, 76, none⟩)) rfl rfl ?_ rfl rfl (by omega) rfl (by rw [sz13]; omega)
  have e3 : execOp a.eval o13_21 = (do let v ← Instr.fieldAt 24 (a.eval (.tmp 93)) 4; pure (.value v)) := rfl
  rw [e3, e0, Sem.run_bind]
  have e4 : (Instr.fieldAt 24 (.pointer (some ⟨g, 72, none⟩)) 4).run Try.prog w = .ok (.pointer (some ⟨g, 76, none⟩)) w := fld_run g 72 4 (by omega) w
  rw [e4]
  rfl
set_option maxRecDepth 20000 in
theorem s13_22 {g : Nat} {bm : Option Addr} {base : Nat} {P0 : List Tv} {rb : Nat → Nat} {w0 : World} {tm : Array Value} {listed : Array Bool} {a : Act} {w : World} {Q : Exit → Act → World → Prop} (h : Iv ops13 (sp13 g bm) ds13 g base P0 w0 tm listed a w) (hg0 : g < w0.heap.size) (hV : Vr g rb w0 tm) (hP : ∀ k, 10 ≤ k → k < 15 → P0[k]? = some (⟨63, 16384, 3, bm, 3, 3, bm, 3, 3, bm, 3, 3⟩ : Tv)) (hl : listed.getD 22 true = false) (hr : ∀ e ∈ o13_22.after, Region.binds .any e = true → listed.getD e.on false = true) : wpOp Try.prog ops13 Q 22 (fun a' w' => Iv ops13 (sp13 g bm) ds13 g base P0 w0 tm (listed.setIfInBounds 22 true) a' w') a w := by
  have e0 : a.eval (.tmp 94) = .pointer (some ⟨g, 76, none⟩) := h.val 21 (by rw [sz13]; omega) (hr ⟨21, .data⟩ (by simp [o13_22]) rfl)
  obtain ⟨b, hb, e1, hrd⟩ := h.val 13 (by rw [sz13]; omega) (hr ⟨13, .data⟩ (by simp [o13_22]) rfl)
  have e1 : a.eval (.tmp 88) = .slice (some ⟨b, 0, none⟩) 4 4 := e1
  exact st_sto (rg13 g bm) h hg0 (o := o13_22) (X := (fun q => ⟨63, 16384, 3, bm, 3, 3, q, 4, 4, bm, 3, 3⟩) (some ⟨b, 0, none⟩)) rfl rfl rfl (.inr (.inr rfl)) rfl (by rw [sz13]; omega) hl (k := 12) (by omega) (f := 4) (by omega) (by omega) e0 e1 (.inr ⟨_, _, _, rfl⟩) rfl (hP 12 (by omega) (by omega)) rfl (fun P w' hP hk => ⟨b, hb, hP, rd_kp0 hrd (by omega) hk⟩)
set_option maxRecDepth 20000 in
theorem s13_23 {g : Nat} {bm : Option Addr} {base : Nat} {P0 : List Tv} {rb : Nat → Nat} {w0 : World} {tm : Array Value} {listed : Array Bool} {a : Act} {w : World} {Q : Exit → Act → World → Prop} (h : Iv ops13 (sp13 g bm) ds13 g base P0 w0 tm listed a w) (hg0 : g < w0.heap.size) (hV : Vr g rb w0 tm) (hP : ∀ k, 10 ≤ k → k < 15 → P0[k]? = some (⟨63, 16384, 3, bm, 3, 3, bm, 3, 3, bm, 3, 3⟩ : Tv)) (hl : listed.getD 23 true = false) (hr : ∀ e ∈ o13_23.after, Region.binds .any e = true → listed.getD e.on false = true) : wpOp Try.prog ops13 Q 23 (fun a' w' => Iv ops13 (sp13 g bm) ds13 g base P0 w0 tm (listed.setIfInBounds 23 true) a' w') a w := by
  have e0 : a.eval (.tmp 78) = .slice (some ⟨g, 0, none⟩) 15 15 := h.val 3 (by rw [sz13]; omega) (hr ⟨3, .data⟩ (by simp [o13_23]) rfl)
  refine st_val (rg13 g bm) h hg0 (o := o13_23) (v := .pointer (some ⟨g, 78, none⟩)) rfl rfl ?_ rfl rfl (by omega) rfl (by rw [sz13]; omega)
  have e1 : a.eval (.const (.int .i64 13)) = .int .i64 13 := rfl
  have e2 := idx_run g 13 (by omega) w
  have e3 : execOp a.eval o13_23 = (do let v ← Instr.indexAt 32 (a.eval (.tmp 78)) (a.eval (.const (.int .i64 13))); pure (.value v)) := rfl
  rw [e3, e0, e1, Sem.run_bind]
  have e4 : (Instr.indexAt 32 (.slice (some ⟨g, 0, none⟩) 15 15) (.int .i64 13)).run Try.prog w = .ok (.pointer (some ⟨g, 78, none⟩)) w := e2
  rw [e4]
  rfl
set_option maxRecDepth 20000 in
theorem s13_24 {g : Nat} {bm : Option Addr} {base : Nat} {P0 : List Tv} {rb : Nat → Nat} {w0 : World} {tm : Array Value} {listed : Array Bool} {a : Act} {w : World} {Q : Exit → Act → World → Prop} (h : Iv ops13 (sp13 g bm) ds13 g base P0 w0 tm listed a w) (hg0 : g < w0.heap.size) (hV : Vr g rb w0 tm) (hP : ∀ k, 10 ≤ k → k < 15 → P0[k]? = some (⟨63, 16384, 3, bm, 3, 3, bm, 3, 3, bm, 3, 3⟩ : Tv)) (hl : listed.getD 24 true = false) (hr : ∀ e ∈ o13_24.after, Region.binds .any e = true → listed.getD e.on false = true) : wpOp Try.prog ops13 Q 24 (fun a' w' => Iv ops13 (sp13 g bm) ds13 g base P0 w0 tm (listed.setIfInBounds 24 true) a' w') a w := by
  have e0 : a.eval (.tmp 95) = .pointer (some ⟨g, 78, none⟩) := h.val 23 (by rw [sz13]; omega) (hr ⟨23, .data⟩ (by simp [o13_24]) rfl)
  refine st_val (rg13 g bm) h hg0 (o := o13_24) (v := .pointer (some ⟨g, 78, none⟩)) rfl rfl ?_ rfl rfl (by omega) rfl (by rw [sz13]; omega)
  have e3 : execOp a.eval o13_24 = (do let v ← Instr.fieldAt 24 (a.eval (.tmp 95)) 0; pure (.value v)) := rfl
  rw [e3, e0, Sem.run_bind]
  have e4 : (Instr.fieldAt 24 (.pointer (some ⟨g, 78, none⟩)) 0).run Try.prog w = .ok (.pointer (some ⟨g, 78, none⟩)) w := fld_run g 78 0 (by omega) w
  rw [e4]
  rfl
set_option maxRecDepth 20000 in
theorem s13_25 {g : Nat} {bm : Option Addr} {base : Nat} {P0 : List Tv} {rb : Nat → Nat} {w0 : World} {tm : Array Value} {listed : Array Bool} {a : Act} {w : World} {Q : Exit → Act → World → Prop} (h : Iv ops13 (sp13 g bm) ds13 g base P0 w0 tm listed a w) (hg0 : g < w0.heap.size) (hV : Vr g rb w0 tm) (hP : ∀ k, 10 ≤ k → k < 15 → P0[k]? = some (⟨63, 16384, 3, bm, 3, 3, bm, 3, 3, bm, 3, 3⟩ : Tv)) (hl : listed.getD 25 true = false) (hr : ∀ e ∈ o13_25.after, Region.binds .any e = true → listed.getD e.on false = true) : wpOp Try.prog ops13 Q 25 (fun a' w' => Iv ops13 (sp13 g bm) ds13 g base P0 w0 tm (listed.setIfInBounds 25 true) a' w') a w := by
  have e0 : a.eval (.tmp 96) = .pointer (some ⟨g, 78, none⟩) := h.val 24 (by rw [sz13]; omega) (hr ⟨24, .data⟩ (by simp [o13_25]) rfl)
  exact st_sto (rg13 g bm) h hg0 (o := o13_25) (X := ⟨-1, 16384, 3, bm, 3, 3, bm, 3, 3, bm, 3, 3⟩) rfl rfl rfl (.inr (.inl rfl)) rfl (by rw [sz13]; omega) hl (k := 13) (by omega) (f := 0) (by omega) (by omega) e0 (v := .int .i64 (-1)) rfl (.inl ⟨_, _, rfl⟩) rfl (hP 13 (by omega) (by omega)) rfl (fun P w' hP _ => hP)
set_option maxRecDepth 20000 in
theorem s13_26 {g : Nat} {bm : Option Addr} {base : Nat} {P0 : List Tv} {rb : Nat → Nat} {w0 : World} {tm : Array Value} {listed : Array Bool} {a : Act} {w : World} {Q : Exit → Act → World → Prop} (h : Iv ops13 (sp13 g bm) ds13 g base P0 w0 tm listed a w) (hg0 : g < w0.heap.size) (hV : Vr g rb w0 tm) (hP : ∀ k, 10 ≤ k → k < 15 → P0[k]? = some (⟨63, 16384, 3, bm, 3, 3, bm, 3, 3, bm, 3, 3⟩ : Tv)) (hl : listed.getD 26 true = false) (hr : ∀ e ∈ o13_26.after, Region.binds .any e = true → listed.getD e.on false = true) : wpOp Try.prog ops13 Q 26 (fun a' w' => Iv ops13 (sp13 g bm) ds13 g base P0 w0 tm (listed.setIfInBounds 26 true) a' w') a w := by
  have e0 : a.eval (.tmp 79) = .slice (some ⟨g, 0, none⟩) 15 15 := h.val 4 (by rw [sz13]; omega) (hr ⟨4, .data⟩ (by simp [o13_26]) rfl)
  refine st_val (rg13 g bm) h hg0 (o := o13_26) (v := .pointer (some ⟨g, 84, none⟩)) rfl rfl ?_ rfl rfl (by omega) rfl (by rw [sz13]; omega)
  have e1 : a.eval (.const (.int .i64 14)) = .int .i64 14 := rfl
  have e2 := idx_run g 14 (by omega) w
  have e3 : execOp a.eval o13_26 = (do let v ← Instr.indexAt 32 (a.eval (.tmp 79)) (a.eval (.const (.int .i64 14))); pure (.value v)) := rfl
  rw [e3, e0, e1, Sem.run_bind]
  have e4 : (Instr.indexAt 32 (.slice (some ⟨g, 0, none⟩) 15 15) (.int .i64 14)).run Try.prog w = .ok (.pointer (some ⟨g, 84, none⟩)) w := e2
  rw [e4]
  rfl
set_option maxRecDepth 20000 in
theorem s13_27 {g : Nat} {bm : Option Addr} {base : Nat} {P0 : List Tv} {rb : Nat → Nat} {w0 : World} {tm : Array Value} {listed : Array Bool} {a : Act} {w : World} {Q : Exit → Act → World → Prop} (h : Iv ops13 (sp13 g bm) ds13 g base P0 w0 tm listed a w) (hg0 : g < w0.heap.size) (hV : Vr g rb w0 tm) (hP : ∀ k, 10 ≤ k → k < 15 → P0[k]? = some (⟨63, 16384, 3, bm, 3, 3, bm, 3, 3, bm, 3, 3⟩ : Tv)) (hl : listed.getD 27 true = false) (hr : ∀ e ∈ o13_27.after, Region.binds .any e = true → listed.getD e.on false = true) : wpOp Try.prog ops13 Q 27 (fun a' w' => Iv ops13 (sp13 g bm) ds13 g base P0 w0 tm (listed.setIfInBounds 27 true) a' w') a w := by
  have e0 : a.eval (.tmp 97) = .pointer (some ⟨g, 84, none⟩) := h.val 26 (by rw [sz13]; omega) (hr ⟨26, .data⟩ (by simp [o13_27]) rfl)
  refine st_val (rg13 g bm) h hg0 (o := o13_27) (v := .pointer (some ⟨g, 87, none⟩)) rfl rfl ?_ rfl rfl (by omega) rfl (by rw [sz13]; omega)
  have e3 : execOp a.eval o13_27 = (do let v ← Instr.fieldAt 24 (a.eval (.tmp 97)) 3; pure (.value v)) := rfl
  rw [e3, e0, Sem.run_bind]
  have e4 : (Instr.fieldAt 24 (.pointer (some ⟨g, 84, none⟩)) 3).run Try.prog w = .ok (.pointer (some ⟨g, 87, none⟩)) w := fld_run g 84 3 (by omega) w
  rw [e4]
  rfl
set_option maxRecDepth 20000 in
theorem s13_28 {g : Nat} {bm : Option Addr} {base : Nat} {P0 : List Tv} {rb : Nat → Nat} {w0 : World} {tm : Array Value} {listed : Array Bool} {a : Act} {w : World} {Q : Exit → Act → World → Prop} (h : Iv ops13 (sp13 g bm) ds13 g base P0 w0 tm listed a w) (hg0 : g < w0.heap.size) (hV : Vr g rb w0 tm) (hP : ∀ k, 10 ≤ k → k < 15 → P0[k]? = some (⟨63, 16384, 3, bm, 3, 3, bm, 3, 3, bm, 3, 3⟩ : Tv)) (hl : listed.getD 28 true = false) (hr : ∀ e ∈ o13_28.after, Region.binds .any e = true → listed.getD e.on false = true) : wpOp Try.prog ops13 Q 28 (fun a' w' => Iv ops13 (sp13 g bm) ds13 g base P0 w0 tm (listed.setIfInBounds 28 true) a' w') a w := by
  have e0 : a.eval (.tmp 98) = .pointer (some ⟨g, 87, none⟩) := h.val 27 (by rw [sz13]; omega) (hr ⟨27, .data⟩ (by simp [o13_28]) rfl)
  exact st_sto (rg13 g bm) h hg0 (o := o13_28) (X := ⟨63, 16384, 3, none, 0, 0, bm, 3, 3, bm, 3, 3⟩) rfl rfl rfl (.inr (.inr rfl)) rfl (by rw [sz13]; omega) hl (k := 14) (by omega) (f := 3) (by omega) (by omega) e0 (v := .slice none 0 0) rfl (.inr ⟨_, _, _, rfl⟩) rfl (hP 14 (by omega) (by omega)) rfl (fun P w' hP _ => hP)
theorem step13 {g : Nat} {bm : Option Addr} {base : Nat} {P0 : List Tv} {rb : Nat → Nat} {w0 : World} {tm : Array Value} {listed : Array Bool} {a : Act} {w : World} {Q : Exit → Act → World → Prop} (h : Iv ops13 (sp13 g bm) ds13 g base P0 w0 tm listed a w) (hg0 : g < w0.heap.size) (hV : Vr g rb w0 tm) (hP : ∀ k, 10 ≤ k → k < 15 → P0[k]? = some (⟨63, 16384, 3, bm, 3, 3, bm, 3, 3, bm, 3, 3⟩ : Tv)) : ∀ (i : Nat) (o : Oper), i < 29 → listed.getD i true = false → ops13[i]? = some o → (∀ e ∈ o.after, Region.binds .any e = true → listed.getD e.on false = true) → wpOp Try.prog ops13 Q i (fun a' w' => Iv ops13 (sp13 g bm) ds13 g base P0 w0 tm (listed.setIfInBounds i true) a' w') a w
  | 0, o, _, hl, ho, hr => by
    obtain rfl : o13_0 = o := Option.some.inj ho
    exact s13_0 h hg0 hV hP hl hr
  | 1, o, _, hl, ho, hr => by
    obtain rfl : o13_1 = o := Option.some.inj ho
    exact s13_1 h hg0 hV hP hl hr
  | 2, o, _, hl, ho, hr => by
    obtain rfl : o13_2 = o := Option.some.inj ho
    exact s13_2 h hg0 hV hP hl hr
  | 3, o, _, hl, ho, hr => by
    obtain rfl : o13_3 = o := Option.some.inj ho
    exact s13_3 h hg0 hV hP hl hr
  | 4, o, _, hl, ho, hr => by
    obtain rfl : o13_4 = o := Option.some.inj ho
    exact s13_4 h hg0 hV hP hl hr
  | 5, o, _, hl, ho, hr => by
    obtain rfl : o13_5 = o := Option.some.inj ho
    exact s13_5 h hg0 hV hP hl hr
  | 6, o, _, hl, ho, hr => by
    obtain rfl : o13_6 = o := Option.some.inj ho
    exact s13_6 h hg0 hV hP hl hr
  | 7, o, _, hl, ho, hr => by
    obtain rfl : o13_7 = o := Option.some.inj ho
    exact s13_7 h hg0 hV hP hl hr
  | 8, o, _, hl, ho, hr => by
    obtain rfl : o13_8 = o := Option.some.inj ho
    exact s13_8 h hg0 hV hP hl hr
  | 9, o, _, hl, ho, hr => by
    obtain rfl : o13_9 = o := Option.some.inj ho
    exact s13_9 h hg0 hV hP hl hr
  | 10, o, _, hl, ho, hr => by
    obtain rfl : o13_10 = o := Option.some.inj ho
    exact s13_10 h hg0 hV hP hl hr
  | 11, o, _, hl, ho, hr => by
    obtain rfl : o13_11 = o := Option.some.inj ho
    exact s13_11 h hg0 hV hP hl hr
  | 12, o, _, hl, ho, hr => by
    obtain rfl : o13_12 = o := Option.some.inj ho
    exact s13_12 h hg0 hV hP hl hr
  | 13, o, _, hl, ho, hr => by
    obtain rfl : o13_13 = o := Option.some.inj ho
    exact s13_13 h hg0 hV hP hl hr
  | 14, o, _, hl, ho, hr => by
    obtain rfl : o13_14 = o := Option.some.inj ho
    exact s13_14 h hg0 hV hP hl hr
  | 15, o, _, hl, ho, hr => by
    obtain rfl : o13_15 = o := Option.some.inj ho
    exact s13_15 h hg0 hV hP hl hr
  | 16, o, _, hl, ho, hr => by
    obtain rfl : o13_16 = o := Option.some.inj ho
    exact s13_16 h hg0 hV hP hl hr
  | 17, o, _, hl, ho, hr => by
    obtain rfl : o13_17 = o := Option.some.inj ho
    exact s13_17 h hg0 hV hP hl hr
  | 18, o, _, hl, ho, hr => by
    obtain rfl : o13_18 = o := Option.some.inj ho
    exact s13_18 h hg0 hV hP hl hr
  | 19, o, _, hl, ho, hr => by
    obtain rfl : o13_19 = o := Option.some.inj ho
    exact s13_19 h hg0 hV hP hl hr
  | 20, o, _, hl, ho, hr => by
    obtain rfl : o13_20 = o := Option.some.inj ho
    exact s13_20 h hg0 hV hP hl hr
  | 21, o, _, hl, ho, hr => by
    obtain rfl : o13_21 = o := Option.some.inj ho
    exact s13_21 h hg0 hV hP hl hr
  | 22, o, _, hl, ho, hr => by
    obtain rfl : o13_22 = o := Option.some.inj ho
    exact s13_22 h hg0 hV hP hl hr
  | 23, o, _, hl, ho, hr => by
    obtain rfl : o13_23 = o := Option.some.inj ho
    exact s13_23 h hg0 hV hP hl hr
  | 24, o, _, hl, ho, hr => by
    obtain rfl : o13_24 = o := Option.some.inj ho
    exact s13_24 h hg0 hV hP hl hr
  | 25, o, _, hl, ho, hr => by
    obtain rfl : o13_25 = o := Option.some.inj ho
    exact s13_25 h hg0 hV hP hl hr
  | 26, o, _, hl, ho, hr => by
    obtain rfl : o13_26 = o := Option.some.inj ho
    exact s13_26 h hg0 hV hP hl hr
  | 27, o, _, hl, ho, hr => by
    obtain rfl : o13_27 = o := Option.some.inj ho
    exact s13_27 h hg0 hV hP hl hr
  | 28, o, _, hl, ho, hr => by
    obtain rfl : o13_28 = o := Option.some.inj ho
    exact s13_28 h hg0 hV hP hl hr
  | i + 29, _, h, _, _, _ => absurd h (by omega)
set_option maxRecDepth 100000 in
theorem ahead13 : ∀ (i : Nat) (o : Oper), ops13[i]? = some o → ∀ e ∈ o.after, Region.binds .any e = true → e.on < i := by
  have hb : ((List.range 29).all fun i => (ops13.getD i default).after.all fun e => !(Region.binds .any e) || decide (e.on < i)) = true := by kernel_rfl
  intro i o ho e he hbd
  have hi : i < 29 := by
    have := (Array.getElem?_eq_some_iff.1 ho).1
    rw [sz13] at this
    exact this
  have h1 := List.all_eq_true.1 hb i (by simpa using hi)
  have h2 : ops13.getD i default = o := by rw [Array.getD_eq_getD_getElem?, ho]; rfl
  rw [h2] at h1
  have h3 := (Array.all_eq_true_iff_forall_mem.1 h1) e he
  rw [hbd] at h3
  simpa using h3
end Go.Proofs.Ytonholadabebbaa
