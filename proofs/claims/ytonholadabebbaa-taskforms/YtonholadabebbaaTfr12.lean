/-
  The drawn region 12 of the law TaskForms: each operation's value.
-/
import Derived.Test.YtonholadabebbaaTfgen
namespace Go.Proofs.Ytonholadabebbaa
open Go.ChangeShapes Go.WideShapes Go.ChangeAt Go.RowKit
set_option linter.unusedVariables false
attribute [local go_sem ↓] Go.wp_at_zero Go.wp_at_succ

def o12_0 : Oper := { dst := some 54, op := Op.move (Operand.tmp 7), type := 32, pos := "law.go:77", after := #[], guard := none }
def o12_1 : Oper := { dst := some 55, op := Op.move (Operand.tmp 7), type := 32, pos := "law.go:77", after := #[{ on := 13, ground := Ground.gcOnly Departure.lateStores }], guard := none }
def o12_2 : Oper := { dst := some 56, op := Op.move (Operand.tmp 7), type := 32, pos := "law.go:77", after := #[{ on := 16, ground := Ground.gcOnly Departure.lateStores }], guard := none }
def o12_3 : Oper := { dst := some 57, op := Op.move (Operand.tmp 7), type := 32, pos := "law.go:77", after := #[{ on := 19, ground := Ground.gcOnly Departure.lateStores }], guard := none }
def o12_4 : Oper := { dst := some 58, op := Op.move (Operand.tmp 7), type := 32, pos := "law.go:77", after := #[{ on := 22, ground := Ground.gcOnly Departure.lateStores }], guard := none }
def o12_5 : Oper := { dst := some 59, op := Op.load 42 (Operand.tmp 2), type := 42, pos := "law.go:77", after := #[], guard := none }
def o12_6 : Oper := { dst := some 60, op := Op.buildSlice 22 1 #[(0, Operand.tmp 59)], type := 22, pos := "law.go:77", after := #[{ on := 5, ground := Ground.data }], guard := none }
def o12_7 : Oper := { dst := some 61, op := Op.load 42 (Operand.tmp 2), type := 42, pos := "law.go:77", after := #[], guard := none }
def o12_8 : Oper := { dst := some 62, op := Op.buildSlice 22 1 #[(0, Operand.tmp 61)], type := 22, pos := "law.go:77", after := #[{ on := 7, ground := Ground.data }], guard := none }
def o12_9 : Oper := { dst := some 63, op := Op.load 42 (Operand.tmp 2), type := 42, pos := "law.go:77", after := #[], guard := none }
def o12_10 : Oper := { dst := some 64, op := Op.buildSlice 22 1 #[(0, Operand.tmp 63)], type := 22, pos := "law.go:77", after := #[{ on := 9, ground := Ground.data }], guard := none }
def o12_11 : Oper := { dst := some 65, op := Op.indexAddr 32 (Operand.tmp 54) (Operand.const (Value.int IntKind.i64 5)), type := 0, pos := "law.go:77", after := #[{ on := 0, ground := Ground.data }, { on := 0, ground := Ground.phase }, { on := 1, ground := Ground.textOnly Departure.lateStores }, { on := 2, ground := Ground.textOnly Departure.lateStores }, { on := 3, ground := Ground.textOnly Departure.lateStores }, { on := 4, ground := Ground.textOnly Departure.lateStores }, { on := 5, ground := Ground.textOnly Departure.lateStores }, { on := 6, ground := Ground.textOnly Departure.lateStoresUnsure }, { on := 7, ground := Ground.textOnly Departure.lateStores }, { on := 8, ground := Ground.textOnly Departure.lateStoresUnsure }, { on := 9, ground := Ground.textOnly Departure.lateStores }, { on := 10, ground := Ground.textOnly Departure.lateStoresUnsure }], guard := none }
def o12_12 : Oper := { dst := some 66, op := Op.fieldAddr 24 (Operand.tmp 65) 1, type := 0, pos := "law.go:77", after := #[{ on := 11, ground := Ground.data }, { on := 0, ground := Ground.phase }, { on := 1, ground := Ground.textOnly Departure.lateStores }, { on := 2, ground := Ground.textOnly Departure.lateStores }, { on := 3, ground := Ground.textOnly Departure.lateStores }, { on := 4, ground := Ground.textOnly Departure.lateStores }, { on := 5, ground := Ground.textOnly Departure.lateStores }, { on := 6, ground := Ground.textOnly Departure.lateStoresUnsure }, { on := 7, ground := Ground.textOnly Departure.lateStores }, { on := 8, ground := Ground.textOnly Departure.lateStoresUnsure }, { on := 9, ground := Ground.textOnly Departure.lateStores }, { on := 10, ground := Ground.textOnly Departure.lateStoresUnsure }], guard := none }
def o12_13 : Oper := { dst := none, op := Op.store 2 (Operand.tmp 66) (Operand.const (Value.int IntKind.i64 2)), type := 0, pos := "law.go:77", after := #[{ on := 12, ground := Ground.data }, { on := 0, ground := Ground.phase }, { on := 1, ground := Ground.textOnly Departure.lateStores }, { on := 2, ground := Ground.textOnly Departure.lateStores }, { on := 3, ground := Ground.textOnly Departure.lateStores }, { on := 4, ground := Ground.textOnly Departure.lateStores }, { on := 5, ground := Ground.textOnly Departure.lateStores }, { on := 6, ground := Ground.textOnly Departure.lateStoresUnsure }, { on := 7, ground := Ground.textOnly Departure.lateStores }, { on := 8, ground := Ground.textOnly Departure.lateStoresUnsure }, { on := 9, ground := Ground.textOnly Departure.lateStores }, { on := 10, ground := Ground.textOnly Departure.lateStoresUnsure }], guard := none }
def o12_14 : Oper := { dst := some 67, op := Op.indexAddr 32 (Operand.tmp 55) (Operand.const (Value.int IntKind.i64 6)), type := 0, pos := "law.go:77", after := #[{ on := 1, ground := Ground.data }, { on := 0, ground := Ground.phase }, { on := 1, ground := Ground.phase }, { on := 2, ground := Ground.textOnly Departure.lateStores }, { on := 3, ground := Ground.textOnly Departure.lateStores }, { on := 4, ground := Ground.textOnly Departure.lateStores }, { on := 5, ground := Ground.textOnly Departure.lateStores }, { on := 6, ground := Ground.textOnly Departure.lateStoresUnsure }, { on := 7, ground := Ground.textOnly Departure.lateStores }, { on := 8, ground := Ground.textOnly Departure.lateStoresUnsure }, { on := 9, ground := Ground.textOnly Departure.lateStores }, { on := 10, ground := Ground.textOnly Departure.lateStoresUnsure }, { on := 11, ground := Ground.phase }, { on := 12, ground := Ground.phase }, { on := 13, ground := Ground.phase }], guard := none }
def o12_15 : Oper := { dst := some 68, op := Op.fieldAddr 24 (Operand.tmp 67) 3, type := 0, pos := "law.go:77", after := #[{ on := 14, ground := Ground.data }, { on := 0, ground := Ground.phase }, { on := 1, ground := Ground.phase }, { on := 2, ground := Ground.textOnly Departure.lateStores }, { on := 3, ground := Ground.textOnly Departure.lateStores }, { on := 4, ground := Ground.textOnly Departure.lateStores }, { on := 5, ground := Ground.textOnly Departure.lateStores }, { on := 6, ground := Ground.textOnly Departure.lateStoresUnsure }, { on := 7, ground := Ground.textOnly Departure.lateStores }, { on := 8, ground := Ground.textOnly Departure.lateStoresUnsure }, { on := 9, ground := Ground.textOnly Departure.lateStores }, { on := 10, ground := Ground.textOnly Departure.lateStoresUnsure }, { on := 11, ground := Ground.phase }, { on := 12, ground := Ground.phase }, { on := 13, ground := Ground.phase }], guard := none }
def o12_16 : Oper := { dst := none, op := Op.store 22 (Operand.tmp 68) (Operand.const (Value.slice none 0 0)), type := 0, pos := "law.go:77", after := #[{ on := 15, ground := Ground.data }, { on := 13, ground := Ground.chain }, { on := 0, ground := Ground.phase }, { on := 1, ground := Ground.phase }, { on := 2, ground := Ground.textOnly Departure.lateStores }, { on := 3, ground := Ground.textOnly Departure.lateStores }, { on := 4, ground := Ground.textOnly Departure.lateStores }, { on := 5, ground := Ground.textOnly Departure.lateStores }, { on := 6, ground := Ground.textOnly Departure.lateStoresUnsure }, { on := 7, ground := Ground.textOnly Departure.lateStores }, { on := 8, ground := Ground.textOnly Departure.lateStoresUnsure }, { on := 9, ground := Ground.textOnly Departure.lateStores }, { on := 10, ground := Ground.textOnly Departure.lateStoresUnsure }, { on := 11, ground := Ground.phase }, { on := 12, ground := Ground.phase }, { on := 13, ground := Ground.phase }], guard := none }
def o12_17 : Oper := { dst := some 69, op := Op.indexAddr 32 (Operand.tmp 56) (Operand.const (Value.int IntKind.i64 7)), type := 0, pos := "law.go:77", after := #[{ on := 2, ground := Ground.data }, { on := 0, ground := Ground.phase }, { on := 1, ground := Ground.phase }, { on := 2, ground := Ground.phase }, { on := 3, ground := Ground.textOnly Departure.lateStores }, { on := 4, ground := Ground.textOnly Departure.lateStores }, { on := 5, ground := Ground.phase }, { on := 6, ground := Ground.phase }, { on := 7, ground := Ground.textOnly Departure.lateStores }, { on := 8, ground := Ground.textOnly Departure.lateStoresUnsure }, { on := 9, ground := Ground.textOnly Departure.lateStores }, { on := 10, ground := Ground.textOnly Departure.lateStoresUnsure }, { on := 11, ground := Ground.phase }, { on := 12, ground := Ground.phase }, { on := 13, ground := Ground.phase }, { on := 14, ground := Ground.phase }, { on := 15, ground := Ground.phase }, { on := 16, ground := Ground.phase }], guard := none }
def o12_18 : Oper := { dst := some 70, op := Op.fieldAddr 24 (Operand.tmp 69) 3, type := 0, pos := "law.go:77", after := #[{ on := 17, ground := Ground.data }, { on := 0, ground := Ground.phase }, { on := 1, ground := Ground.phase }, { on := 2, ground := Ground.phase }, { on := 3, ground := Ground.textOnly Departure.lateStores }, { on := 4, ground := Ground.textOnly Departure.lateStores }, { on := 5, ground := Ground.phase }, { on := 6, ground := Ground.phase }, { on := 7, ground := Ground.textOnly Departure.lateStores }, { on := 8, ground := Ground.textOnly Departure.lateStoresUnsure }, { on := 9, ground := Ground.textOnly Departure.lateStores }, { on := 10, ground := Ground.textOnly Departure.lateStoresUnsure }, { on := 11, ground := Ground.phase }, { on := 12, ground := Ground.phase }, { on := 13, ground := Ground.phase }, { on := 14, ground := Ground.phase }, { on := 15, ground := Ground.phase }, { on := 16, ground := Ground.phase }], guard := none }
def o12_19 : Oper := { dst := none, op := Op.store 22 (Operand.tmp 70) (Operand.tmp 60), type := 0, pos := "law.go:77", after := #[{ on := 18, ground := Ground.data }, { on := 6, ground := Ground.data }, { on := 16, ground := Ground.chain }, { on := 0, ground := Ground.phase }, { on := 1, ground := Ground.phase }, { on := 2, ground := Ground.phase }, { on := 3, ground := Ground.textOnly Departure.lateStores }, { on := 4, ground := Ground.textOnly Departure.lateStores }, { on := 5, ground := Ground.phase }, { on := 6, ground := Ground.phase }, { on := 7, ground := Ground.textOnly Departure.lateStores }, { on := 8, ground := Ground.textOnly Departure.lateStoresUnsure }, { on := 9, ground := Ground.textOnly Departure.lateStores }, { on := 10, ground := Ground.textOnly Departure.lateStoresUnsure }, { on := 11, ground := Ground.phase }, { on := 12, ground := Ground.phase }, { on := 13, ground := Ground.phase }, { on := 14, ground := Ground.phase }, { on := 15, ground := Ground.phase }, { on := 16, ground := Ground.phase }], guard := none }
def o12_20 : Oper := { dst := some 71, op := Op.indexAddr 32 (Operand.tmp 57) (Operand.const (Value.int IntKind.i64 8)), type := 0, pos := "law.go:77", after := #[{ on := 3, ground := Ground.data }, { on := 0, ground := Ground.phase }, { on := 1, ground := Ground.phase }, { on := 2, ground := Ground.phase }, { on := 3, ground := Ground.phase }, { on := 4, ground := Ground.textOnly Departure.lateStores }, { on := 5, ground := Ground.phase }, { on := 6, ground := Ground.phase }, { on := 7, ground := Ground.phase }, { on := 8, ground := Ground.phase }, { on := 9, ground := Ground.textOnly Departure.lateStores }, { on := 10, ground := Ground.textOnly Departure.lateStoresUnsure }, { on := 11, ground := Ground.phase }, { on := 12, ground := Ground.phase }, { on := 13, ground := Ground.phase }, { on := 14, ground := Ground.phase }, { on := 15, ground := Ground.phase }, { on := 16, ground := Ground.phase }, { on := 17, ground := Ground.phase }, { on := 18, ground := Ground.phase }, { on := 19, ground := Ground.phase }], guard := none }
def o12_21 : Oper := { dst := some 72, op := Op.fieldAddr 24 (Operand.tmp 71) 4, type := 0, pos := "law.go:77", after := #[{ on := 20, ground := Ground.data }, { on := 0, ground := Ground.phase }, { on := 1, ground := Ground.phase }, { on := 2, ground := Ground.phase }, { on := 3, ground := Ground.phase }, { on := 4, ground := Ground.textOnly Departure.lateStores }, { on := 5, ground := Ground.phase }, { on := 6, ground := Ground.phase }, { on := 7, ground := Ground.phase }, { on := 8, ground := Ground.phase }, { on := 9, ground := Ground.textOnly Departure.lateStores }, { on := 10, ground := Ground.textOnly Departure.lateStoresUnsure }, { on := 11, ground := Ground.phase }, { on := 12, ground := Ground.phase }, { on := 13, ground := Ground.phase }, { on := 14, ground := Ground.phase }, { on := 15, ground := Ground.phase }, { on := 16, ground := Ground.phase }, { on := 17, ground := Ground.phase }, { on := 18, ground := Ground.phase }, { on := 19, ground := Ground.phase }], guard := none }
def o12_22 : Oper := { dst := none, op := Op.store 22 (Operand.tmp 72) (Operand.tmp 62), type := 0, pos := "law.go:77", after := #[{ on := 21, ground := Ground.data }, { on := 8, ground := Ground.data }, { on := 19, ground := Ground.chain }, { on := 0, ground := Ground.phase }, { on := 1, ground := Ground.phase }, { on := 2, ground := Ground.phase }, { on := 3, ground := Ground.phase }, { on := 4, ground := Ground.textOnly Departure.lateStores }, { on := 5, ground := Ground.phase }, { on := 6, ground := Ground.phase }, { on := 7, ground := Ground.phase }, { on := 8, ground := Ground.phase }, { on := 9, ground := Ground.textOnly Departure.lateStores }, { on := 10, ground := Ground.textOnly Departure.lateStoresUnsure }, { on := 11, ground := Ground.phase }, { on := 12, ground := Ground.phase }, { on := 13, ground := Ground.phase }, { on := 14, ground := Ground.phase }, { on := 15, ground := Ground.phase }, { on := 16, ground := Ground.phase }, { on := 17, ground := Ground.phase }, { on := 18, ground := Ground.phase }, { on := 19, ground := Ground.phase }], guard := none }
def o12_23 : Oper := { dst := some 73, op := Op.indexAddr 32 (Operand.tmp 58) (Operand.const (Value.int IntKind.i64 9)), type := 0, pos := "law.go:77", after := #[{ on := 4, ground := Ground.data }, { on := 0, ground := Ground.phase }, { on := 1, ground := Ground.phase }, { on := 2, ground := Ground.phase }, { on := 3, ground := Ground.phase }, { on := 4, ground := Ground.phase }, { on := 5, ground := Ground.phase }, { on := 6, ground := Ground.phase }, { on := 7, ground := Ground.phase }, { on := 8, ground := Ground.phase }, { on := 9, ground := Ground.phase }, { on := 10, ground := Ground.phase }, { on := 11, ground := Ground.phase }, { on := 12, ground := Ground.phase }, { on := 13, ground := Ground.phase }, { on := 14, ground := Ground.phase }, { on := 15, ground := Ground.phase }, { on := 16, ground := Ground.phase }, { on := 17, ground := Ground.phase }, { on := 18, ground := Ground.phase }, { on := 19, ground := Ground.phase }, { on := 20, ground := Ground.phase }, { on := 21, ground := Ground.phase }, { on := 22, ground := Ground.phase }], guard := none }
def o12_24 : Oper := { dst := some 74, op := Op.fieldAddr 24 (Operand.tmp 73) 5, type := 0, pos := "law.go:77", after := #[{ on := 23, ground := Ground.data }, { on := 0, ground := Ground.phase }, { on := 1, ground := Ground.phase }, { on := 2, ground := Ground.phase }, { on := 3, ground := Ground.phase }, { on := 4, ground := Ground.phase }, { on := 5, ground := Ground.phase }, { on := 6, ground := Ground.phase }, { on := 7, ground := Ground.phase }, { on := 8, ground := Ground.phase }, { on := 9, ground := Ground.phase }, { on := 10, ground := Ground.phase }, { on := 11, ground := Ground.phase }, { on := 12, ground := Ground.phase }, { on := 13, ground := Ground.phase }, { on := 14, ground := Ground.phase }, { on := 15, ground := Ground.phase }, { on := 16, ground := Ground.phase }, { on := 17, ground := Ground.phase }, { on := 18, ground := Ground.phase }, { on := 19, ground := Ground.phase }, { on := 20, ground := Ground.phase }, { on := 21, ground := Ground.phase }, { on := 22, ground := Ground.phase }], guard := none }
def o12_25 : Oper := { dst := none, op := Op.store 22 (Operand.tmp 74) (Operand.tmp 64), type := 0, pos := "law.go:77", after := #[{ on := 24, ground := Ground.data }, { on := 10, ground := Ground.data }, { on := 22, ground := Ground.chain }, { on := 0, ground := Ground.phase }, { on := 1, ground := Ground.phase }, { on := 2, ground := Ground.phase }, { on := 3, ground := Ground.phase }, { on := 4, ground := Ground.phase }, { on := 5, ground := Ground.phase }, { on := 6, ground := Ground.phase }, { on := 7, ground := Ground.phase }, { on := 8, ground := Ground.phase }, { on := 9, ground := Ground.phase }, { on := 10, ground := Ground.phase }, { on := 11, ground := Ground.phase }, { on := 12, ground := Ground.phase }, { on := 13, ground := Ground.phase }, { on := 14, ground := Ground.phase }, { on := 15, ground := Ground.phase }, { on := 16, ground := Ground.phase }, { on := 17, ground := Ground.phase }, { on := 18, ground := Ground.phase }, { on := 19, ground := Ground.phase }, { on := 20, ground := Ground.phase }, { on := 21, ground := Ground.phase }, { on := 22, ground := Ground.phase }], guard := none }
def ops12 : Array Oper := #[o12_0, o12_1, o12_2, o12_3, o12_4, o12_5, o12_6, o12_7, o12_8, o12_9, o12_10, o12_11, o12_12, o12_13, o12_14, o12_15, o12_16, o12_17, o12_18, o12_19, o12_20, o12_21, o12_22, o12_23, o12_24, o12_25]
def sp12 (g : Nat) (bm : Option Addr) : List Sp := [.val (.slice (some ⟨g, 0, none⟩) 15 15), .val (.slice (some ⟨g, 0, none⟩) 15 15), .val (.slice (some ⟨g, 0, none⟩) 15 15), .val (.slice (some ⟨g, 0, none⟩) 15 15), .val (.slice (some ⟨g, 0, none⟩) 15 15), .val (.agg (aC (vars4 2))), .prog [(1, 0, 0, 0)], .val (.agg (aC (vars4 2))), .prog [(1, 0, 0, 0)], .val (.agg (aC (vars4 2))), .prog [(1, 0, 0, 0)], .val (.pointer (some ⟨g, 30, none⟩)), .val (.pointer (some ⟨g, 31, none⟩)), .stv 5 ⟨63, 2, 3, bm, 3, 3, bm, 3, 3, bm, 3, 3⟩, .val (.pointer (some ⟨g, 36, none⟩)), .val (.pointer (some ⟨g, 39, none⟩)), .stv 6 ⟨63, 16384, 3, none, 0, 0, bm, 3, 3, bm, 3, 3⟩, .val (.pointer (some ⟨g, 42, none⟩)), .val (.pointer (some ⟨g, 45, none⟩)), .stp 7 (fun q => ⟨63, 16384, 3, q, 1, 1, bm, 3, 3, bm, 3, 3⟩) [(1, 0, 0, 0)], .val (.pointer (some ⟨g, 48, none⟩)), .val (.pointer (some ⟨g, 52, none⟩)), .stp 8 (fun q => ⟨63, 16384, 3, bm, 3, 3, q, 1, 1, bm, 3, 3⟩) [(1, 0, 0, 0)], .val (.pointer (some ⟨g, 54, none⟩)), .val (.pointer (some ⟨g, 59, none⟩)), .stp 9 (fun q => ⟨63, 16384, 3, bm, 3, 3, bm, 3, 3, q, 1, 1⟩) [(1, 0, 0, 0)]]
def ds12 : List Nat := [54, 55, 56, 57, 58, 59, 60, 61, 62, 63, 64, 65, 66, 1013, 67, 68, 1016, 69, 70, 1019, 71, 72, 1022, 73, 74, 1025]
def tl12 : List (Option Nat) := [none, none, none, none, none, none, none, none, none, none, none, none, none, some 5, none, none, some 6, none, none, some 7, none, none, some 8, none, none, some 9]
theorem sz12 : ops12.size = 26 := rfl
set_option maxRecDepth 100000 in
theorem uq12 : ∀ i, i < 26 → ∀ j, j < 26 → tl12.getD i none ≠ none → tl12.getD i none = tl12.getD j none → i = j := by decide +kernel
set_option maxRecDepth 100000 in
theorem nd12 : ds12.Nodup := by decide +kernel
theorem rg12 (g : Nat) (bm : Option Addr) : Rg ops12 (sp12 g bm) ds12 := ⟨nd12, rfl, fun i hi j hj h1 h2 => by
  have e : (sp12 g bm).map tgt = tl12 := rfl
  rw [tgt_getD, e] at h1 h2
  rw [tgt_getD, e] at h2
  exact uq12 i hi j hj h1 h2⟩
set_option maxRecDepth 20000 in
theorem s12_0 {g : Nat} {bm : Option Addr} {base : Nat} {P0 : List Tv} {rb : Nat → Nat} {w0 : World} {tm : Array Value} {listed : Array Bool} {a : Act} {w : World} {Q : Exit → Act → World → Prop} (h : Iv ops12 (sp12 g bm) ds12 g base P0 w0 tm listed a w) (hg0 : g < w0.heap.size) (hV : Vr g rb w0 tm) (hP : ∀ k, 5 ≤ k → k < 10 → P0[k]? = some (⟨63, 16384, 3, bm, 3, 3, bm, 3, 3, bm, 3, 3⟩ : Tv)) (hl : listed.getD 0 true = false) (hr : ∀ e ∈ o12_0.after, Region.binds .any e = true → listed.getD e.on false = true) : wpOp Try.prog ops12 Q 0 (fun a' w' => Iv ops12 (sp12 g bm) ds12 g base P0 w0 tm (listed.setIfInBounds 0 true) a' w') a w := st_move (rg12 g bm) h hg0 (o := o12_0) rfl rfl rfl rfl rfl (by omega) (by decide +kernel) hV.bad rfl (by rw [sz12]; omega)
set_option maxRecDepth 20000 in
theorem s12_1 {g : Nat} {bm : Option Addr} {base : Nat} {P0 : List Tv} {rb : Nat → Nat} {w0 : World} {tm : Array Value} {listed : Array Bool} {a : Act} {w : World} {Q : Exit → Act → World → Prop} (h : Iv ops12 (sp12 g bm) ds12 g base P0 w0 tm listed a w) (hg0 : g < w0.heap.size) (hV : Vr g rb w0 tm) (hP : ∀ k, 5 ≤ k → k < 10 → P0[k]? = some (⟨63, 16384, 3, bm, 3, 3, bm, 3, 3, bm, 3, 3⟩ : Tv)) (hl : listed.getD 1 true = false) (hr : ∀ e ∈ o12_1.after, Region.binds .any e = true → listed.getD e.on false = true) : wpOp Try.prog ops12 Q 1 (fun a' w' => Iv ops12 (sp12 g bm) ds12 g base P0 w0 tm (listed.setIfInBounds 1 true) a' w') a w := st_move (rg12 g bm) h hg0 (o := o12_1) rfl rfl rfl rfl rfl (by omega) (by decide +kernel) hV.bad rfl (by rw [sz12]; omega)
set_option maxRecDepth 20000 in
theorem s12_2 {g : Nat} {bm : Option Addr} {base : Nat} {P0 : List Tv} {rb : Nat → Nat} {w0 : World} {tm : Array Value} {listed : Array Bool} {a : Act} {w : World} {Q : Exit → Act → World → Prop} (h : Iv ops12 (sp12 g bm) ds12 g base P0 w0 tm listed a w) (hg0 : g < w0.heap.size) (hV : Vr g rb w0 tm) (hP : ∀ k, 5 ≤ k → k < 10 → P0[k]? = some (⟨63, 16384, 3, bm, 3, 3, bm, 3, 3, bm, 3, 3⟩ : Tv)) (hl : listed.getD 2 true = false) (hr : ∀ e ∈ o12_2.after, Region.binds .any e = true → listed.getD e.on false = true) : wpOp Try.prog ops12 Q 2 (fun a' w' => Iv ops12 (sp12 g bm) ds12 g base P0 w0 tm (listed.setIfInBounds 2 true) a' w') a w := st_move (rg12 g bm) h hg0 (o := o12_2) rfl rfl rfl rfl rfl (by omega) (by decide +kernel) hV.bad rfl (by rw [sz12]; omega)
set_option maxRecDepth 20000 in
theorem s12_3 {g : Nat} {bm : Option Addr} {base : Nat} {P0 : List Tv} {rb : Nat → Nat} {w0 : World} {tm : Array Value} {listed : Array Bool} {a : Act} {w : World} {Q : Exit → Act → World → Prop} (h : Iv ops12 (sp12 g bm) ds12 g base P0 w0 tm listed a w) (hg0 : g < w0.heap.size) (hV : Vr g rb w0 tm) (hP : ∀ k, 5 ≤ k → k < 10 → P0[k]? = some (⟨63, 16384, 3, bm, 3, 3, bm, 3, 3, bm, 3, 3⟩ : Tv)) (hl : listed.getD 3 true = false) (hr : ∀ e ∈ o12_3.after, Region.binds .any e = true → listed.getD e.on false = true) : wpOp Try.prog ops12 Q 3 (fun a' w' => Iv ops12 (sp12 g bm) ds12 g base P0 w0 tm (listed.setIfInBounds 3 true) a' w') a w := st_move (rg12 g bm) h hg0 (o := o12_3) rfl rfl rfl rfl rfl (by omega) (by decide +kernel) hV.bad rfl (by rw [sz12]; omega)
set_option maxRecDepth 20000 in
theorem s12_4 {g : Nat} {bm : Option Addr} {base : Nat} {P0 : List Tv} {rb : Nat → Nat} {w0 : World} {tm : Array Value} {listed : Array Bool} {a : Act} {w : World} {Q : Exit → Act → World → Prop} (h : Iv ops12 (sp12 g bm) ds12 g base P0 w0 tm listed a w) (hg0 : g < w0.heap.size) (hV : Vr g rb w0 tm) (hP : ∀ k, 5 ≤ k → k < 10 → P0[k]? = some (⟨63, 16384, 3, bm, 3, 3, bm, 3, 3, bm, 3, 3⟩ : Tv)) (hl : listed.getD 4 true = false) (hr : ∀ e ∈ o12_4.after, Region.binds .any e = true → listed.getD e.on false = true) : wpOp Try.prog ops12 Q 4 (fun a' w' => Iv ops12 (sp12 g bm) ds12 g base P0 w0 tm (listed.setIfInBounds 4 true) a' w') a w := st_move (rg12 g bm) h hg0 (o := o12_4) rfl rfl rfl rfl rfl (by omega) (by decide +kernel) hV.bad rfl (by rw [sz12]; omega)
set_option maxRecDepth 20000 in
theorem s12_5 {g : Nat} {bm : Option Addr} {base : Nat} {P0 : List Tv} {rb : Nat → Nat} {w0 : World} {tm : Array Value} {listed : Array Bool} {a : Act} {w : World} {Q : Exit → Act → World → Prop} (h : Iv ops12 (sp12 g bm) ds12 g base P0 w0 tm listed a w) (hg0 : g < w0.heap.size) (hV : Vr g rb w0 tm) (hP : ∀ k, 5 ≤ k → k < 10 → P0[k]? = some (⟨63, 16384, 3, bm, 3, 3, bm, 3, 3, bm, 3, 3⟩ : Tv)) (hl : listed.getD 5 true = false) (hr : ∀ e ∈ o12_5.after, Region.binds .any e = true → listed.getD e.on false = true) : wpOp Try.prog ops12 Q 5 (fun a' w' => Iv ops12 (sp12 g bm) ds12 g base P0 w0 tm (listed.setIfInBounds 5 true) a' w') a w := st_load (rg12 g bm) h hg0 hV (o := o12_5) rfl rfl rfl rfl rfl (by omega) (by decide +kernel) (by omega) (by omega) rfl (by rw [sz12]; omega)
set_option maxRecDepth 20000 in
theorem s12_6 {g : Nat} {bm : Option Addr} {base : Nat} {P0 : List Tv} {rb : Nat → Nat} {w0 : World} {tm : Array Value} {listed : Array Bool} {a : Act} {w : World} {Q : Exit → Act → World → Prop} (h : Iv ops12 (sp12 g bm) ds12 g base P0 w0 tm listed a w) (hg0 : g < w0.heap.size) (hV : Vr g rb w0 tm) (hP : ∀ k, 5 ≤ k → k < 10 → P0[k]? = some (⟨63, 16384, 3, bm, 3, 3, bm, 3, 3, bm, 3, 3⟩ : Tv)) (hl : listed.getD 6 true = false) (hr : ∀ e ∈ o12_6.after, Region.binds .any e = true → listed.getD e.on false = true) : wpOp Try.prog ops12 Q 6 (fun a' w' => Iv ops12 (sp12 g bm) ds12 g base P0 w0 tm (listed.setIfInBounds 6 true) a' w') a w := by
  have e0 : a.eval (.tmp 59) = .agg #[.int .i64 1, .int .i64 0, .int .i64 0, .int .i64 0] := h.val 5 (by rw [sz12]; omega) (hr ⟨5, .data⟩ (by simp [o12_6]) rfl)
  refine st_row (rg12 g bm) h hg0 (o := o12_6) (l := [(1, 0, 0, 0)]) (cells := #[.int .i64 1, .int .i64 0, .int .i64 0, .int .i64 0]) rfl rfl rfl rfl rfl (by omega) rfl rfl (by omega) (by omega) (by rw [sz12]; omega) (fun ie z _ _ hsz hzz => ?_) rfl
  subst hzz
  simp only [hsz, List.map_toArray, List.map_cons, List.map_nil, e0]
  kernel_rfl
set_option maxRecDepth 20000 in
theorem s12_7 {g : Nat} {bm : Option Addr} {base : Nat} {P0 : List Tv} {rb : Nat → Nat} {w0 : World} {tm : Array Value} {listed : Array Bool} {a : Act} {w : World} {Q : Exit → Act → World → Prop} (h : Iv ops12 (sp12 g bm) ds12 g base P0 w0 tm listed a w) (hg0 : g < w0.heap.size) (hV : Vr g rb w0 tm) (hP : ∀ k, 5 ≤ k → k < 10 → P0[k]? = some (⟨63, 16384, 3, bm, 3, 3, bm, 3, 3, bm, 3, 3⟩ : Tv)) (hl : listed.getD 7 true = false) (hr : ∀ e ∈ o12_7.after, Region.binds .any e = true → listed.getD e.on false = true) : wpOp Try.prog ops12 Q 7 (fun a' w' => Iv ops12 (sp12 g bm) ds12 g base P0 w0 tm (listed.setIfInBounds 7 true) a' w') a w := st_load (rg12 g bm) h hg0 hV (o := o12_7) rfl rfl rfl rfl rfl (by omega) (by decide +kernel) (by omega) (by omega) rfl (by rw [sz12]; omega)
set_option maxRecDepth 20000 in
theorem s12_8 {g : Nat} {bm : Option Addr} {base : Nat} {P0 : List Tv} {rb : Nat → Nat} {w0 : World} {tm : Array Value} {listed : Array Bool} {a : Act} {w : World} {Q : Exit → Act → World → Prop} (h : Iv ops12 (sp12 g bm) ds12 g base P0 w0 tm listed a w) (hg0 : g < w0.heap.size) (hV : Vr g rb w0 tm) (hP : ∀ k, 5 ≤ k → k < 10 → P0[k]? = some (⟨63, 16384, 3, bm, 3, 3, bm, 3, 3, bm, 3, 3⟩ : Tv)) (hl : listed.getD 8 true = false) (hr : ∀ e ∈ o12_8.after, Region.binds .any e = true → listed.getD e.on false = true) : wpOp Try.prog ops12 Q 8 (fun a' w' => Iv ops12 (sp12 g bm) ds12 g base P0 w0 tm (listed.setIfInBounds 8 true) a' w') a w := by
  have e0 : a.eval (.tmp 61) = .agg #[.int .i64 1, .int .i64 0, .int .i64 0, .int .i64 0] := h.val 7 (by rw [sz12]; omega) (hr ⟨7, .data⟩ (by simp [o12_8]) rfl)
  refine st_row (rg12 g bm) h hg0 (o := o12_8) (l := [(1, 0, 0, 0)]) (cells := #[.int .i64 1, .int .i64 0, .int .i64 0, .int .i64 0]) rfl rfl rfl rfl rfl (by omega) rfl rfl (by omega) (by omega) (by rw [sz12]; omega) (fun ie z _ _ hsz hzz => ?_) rfl
  subst hzz
  simp only [hsz, List.map_toArray, List.map_cons, List.map_nil, e0]
  kernel_rfl
set_option maxRecDepth 20000 in
theorem s12_9 {g : Nat} {bm : Option Addr} {base : Nat} {P0 : List Tv} {rb : Nat → Nat} {w0 : World} {tm : Array Value} {listed : Array Bool} {a : Act} {w : World} {Q : Exit → Act → World → Prop} (h : Iv ops12 (sp12 g bm) ds12 g base P0 w0 tm listed a w) (hg0 : g < w0.heap.size) (hV : Vr g rb w0 tm) (hP : ∀ k, 5 ≤ k → k < 10 → P0[k]? = some (⟨63, 16384, 3, bm, 3, 3, bm, 3, 3, bm, 3, 3⟩ : Tv)) (hl : listed.getD 9 true = false) (hr : ∀ e ∈ o12_9.after, Region.binds .any e = true → listed.getD e.on false = true) : wpOp Try.prog ops12 Q 9 (fun a' w' => Iv ops12 (sp12 g bm) ds12 g base P0 w0 tm (listed.setIfInBounds 9 true) a' w') a w := st_load (rg12 g bm) h hg0 hV (o := o12_9) rfl rfl rfl rfl rfl (by omega) (by decide +kernel) (by omega) (by omega) rfl (by rw [sz12]; omega)
set_option maxRecDepth 20000 in
theorem s12_10 {g : Nat} {bm : Option Addr} {base : Nat} {P0 : List Tv} {rb : Nat → Nat} {w0 : World} {tm : Array Value} {listed : Array Bool} {a : Act} {w : World} {Q : Exit → Act → World → Prop} (h : Iv ops12 (sp12 g bm) ds12 g base P0 w0 tm listed a w) (hg0 : g < w0.heap.size) (hV : Vr g rb w0 tm) (hP : ∀ k, 5 ≤ k → k < 10 → P0[k]? = some (⟨63, 16384, 3, bm, 3, 3, bm, 3, 3, bm, 3, 3⟩ : Tv)) (hl : listed.getD 10 true = false) (hr : ∀ e ∈ o12_10.after, Region.binds .any e = true → listed.getD e.on false = true) : wpOp Try.prog ops12 Q 10 (fun a' w' => Iv ops12 (sp12 g bm) ds12 g base P0 w0 tm (listed.setIfInBounds 10 true) a' w') a w := by
  have e0 : a.eval (.tmp 63) = .agg #[.int .i64 1, .int .i64 0, .int .i64 0, .int .i64 0] := h.val 9 (by rw [sz12]; omega) (hr ⟨9, .data⟩ (by simp [o12_10]) rfl)
  refine st_row (rg12 g bm) h hg0 (o := o12_10) (l := [(1, 0, 0, 0)]) (cells := #[.int .i64 1, .int .i64 0, .int .i64 0, .int .i64 0]) rfl rfl rfl rfl rfl (by omega) rfl rfl (by omega) (by omega) (by rw [sz12]; omega) (fun ie z _ _ hsz hzz => ?_) rfl
  subst hzz
  simp only [hsz, List.map_toArray, List.map_cons, List.map_nil, e0]
  kernel_rfl
set_option maxRecDepth 20000 in
theorem s12_11 {g : Nat} {bm : Option Addr} {base : Nat} {P0 : List Tv} {rb : Nat → Nat} {w0 : World} {tm : Array Value} {listed : Array Bool} {a : Act} {w : World} {Q : Exit → Act → World → Prop} (h : Iv ops12 (sp12 g bm) ds12 g base P0 w0 tm listed a w) (hg0 : g < w0.heap.size) (hV : Vr g rb w0 tm) (hP : ∀ k, 5 ≤ k → k < 10 → P0[k]? = some (⟨63, 16384, 3, bm, 3, 3, bm, 3, 3, bm, 3, 3⟩ : Tv)) (hl : listed.getD 11 true = false) (hr : ∀ e ∈ o12_11.after, Region.binds .any e = true → listed.getD e.on false = true) : wpOp Try.prog ops12 Q 11 (fun a' w' => Iv ops12 (sp12 g bm) ds12 g base P0 w0 tm (listed.setIfInBounds 11 true) a' w') a w := by
  have e0 : a.eval (.tmp 54) = .slice (some ⟨g, 0, none⟩) 15 15 := h.val 0 (by rw [sz12]; omega) (hr ⟨0, .data⟩ (by simp [o12_11]) rfl)
  refine st_val (rg12 g bm) h hg0 (o := o12_11) (v := .pointer (some ⟨g, 30, none⟩)) rfl rfl ?_ rfl rfl (by omega) rfl (by rw [sz12]; omega)
  have e1 : a.eval (.const (.int .i64 5)) = .int .i64 5 := rfl
  have e2 := idx_run g 5 (by omega) w
  have e3 : execOp a.eval o12_11 = (do let v ← Instr.indexAt 32 (a.eval (.tmp 54)) (a.eval (.const (.int .i64 5))); pure (.value v)) := rfl
  rw [e3, e0, e1, Sem.run_bind]
  have e4 : (Instr.indexAt 32 (.slice (some ⟨g, 0, none⟩) 15 15) (.int .i64 5)).run Try.prog w = .ok (.pointer (some ⟨g, 30, none⟩)) w := e2
  rw [e4]
  rfl
set_option maxRecDepth 20000 in
theorem s12_12 {g : Nat} {bm : Option Addr} {base : Nat} {P0 : List Tv} {rb : Nat → Nat} {w0 : World} {tm : Array Value} {listed : Array Bool} {a : Act} {w : World} {Q : Exit → Act → World → Prop} (h : Iv ops12 (sp12 g bm) ds12 g base P0 w0 tm listed a w) (hg0 : g < w0.heap.size) (hV : Vr g rb w0 tm) (hP : ∀ k, 5 ≤ k → k < 10 → P0[k]? = some (⟨63, 16384, 3, bm, 3, 3, bm, 3, 3, bm, 3, 3⟩ : Tv)) (hl : listed.getD 12 true = false) (hr : ∀ e ∈ o12_12.after, Region.binds .any e = true → listed.getD e.on false = true) : wpOp Try.prog ops12 Q 12 (fun a' w' => Iv ops12 (sp12 g bm) ds12 g base P0 w0 tm (listed.setIfInBounds 12 true) a' w') a w := by
  have e0 : a.eval (.tmp 65) = .pointer (some ⟨g, 30, none⟩) := h.val 11 (by rw [sz12]; omega) (hr ⟨11, .data⟩ (by simp [o12_12]) rfl)
  refine st_val (rg12 g bm) h hg0 (o := o12_12) (v := .pointer (some ⟨g, 31, none⟩)) rfl rfl ?_ rfl rfl (by omega) rfl (by rw [sz12]; omega)
  have e3 : execOp a.eval o12_12 = (do let v ← Instr.fieldAt 24 (a.eval (.tmp 65)) 1; pure (.value v)) := rfl
  rw [e3, e0, Sem.run_bind]
  have e4 : (Instr.fieldAt 24 (.pointer (some ⟨g, 30, none⟩)) 1).run Try.prog w = .ok (.pointer (some ⟨g, 31, none⟩)) w := fld_run g 30 1 (by omega) w
  rw [e4]
  rfl
set_option maxRecDepth 20000 in
theorem s12_13 {g : Nat} {bm : Option Addr} {base : Nat} {P0 : List Tv} {rb : Nat → Nat} {w0 : World} {tm : Array Value} {listed : Array Bool} {a : Act} {w : World} {Q : Exit → Act → World → Prop} (h : Iv ops12 (sp12 g bm) ds12 g base P0 w0 tm listed a w) (hg0 : g < w0.heap.size) (hV : Vr g rb w0 tm) (hP : ∀ k, 5 ≤ k → k < 10 → P0[k]? = some (⟨63, 16384, 3, bm, 3, 3, bm, 3, 3, bm, 3, 3⟩ : Tv)) (hl : listed.getD 13 true = false) (hr : ∀ e ∈ o12_13.after, Region.binds .any e = true → listed.getD e.on false = true) : wpOp Try.prog ops12 Q 13 (fun a' w' => Iv ops12 (sp12 g bm) ds12 g base P0 w0 tm (listed.setIfInBounds 13 true) a' w') a w := by
  have e0 : a.eval (.tmp 66) = .pointer (some ⟨g, 31, none⟩) := h.val 12 (by rw [sz12]; omega) (hr ⟨12, .data⟩ (by simp [o12_13]) rfl)
  exact st_sto (rg12 g bm) h hg0 (o := o12_13) (X := ⟨63, 2, 3, bm, 3, 3, bm, 3, 3, bm, 3, 3⟩) rfl rfl rfl (.inl rfl) rfl (by rw [sz12]; omega) hl (k := 5) (by omega) (f := 1) (by omega) (by omega) e0 (v := .int .i64 (2)) rfl (.inl ⟨_, _, rfl⟩) rfl (hP 5 (by omega) (by omega)) rfl (fun P w' hP _ => hP)
set_option maxRecDepth 20000 in
theorem s12_14 {g : Nat} {bm : Option Addr} {base : Nat} {P0 : List Tv} {rb : Nat → Nat} {w0 : World} {tm : Array Value} {listed : Array Bool} {a : Act} {w : World} {Q : Exit → Act → World → Prop} (h : Iv ops12 (sp12 g bm) ds12 g base P0 w0 tm listed a w) (hg0 : g < w0.heap.size) (hV : Vr g rb w0 tm) (hP : ∀ k, 5 ≤ k → k < 10 → P0[k]? = some (⟨63, 16384, 3, bm, 3, 3, bm, 3, 3, bm, 3, 3⟩ : Tv)) (hl : listed.getD 14 true = false) (hr : ∀ e ∈ o12_14.after, Region.binds .any e = true → listed.getD e.on false = true) : wpOp Try.prog ops12 Q 14 (fun a' w' => Iv ops12 (sp12 g bm) ds12 g base P0 w0 tm (listed.setIfInBounds 14 true) a' w') a w := by
  have e0 : a.eval (.tmp 55) = .slice (some ⟨g, 0, none⟩) 15 15 := h.val 1 (by rw [sz12]; omega) (hr ⟨1, .data⟩ (by simp [o12_14]) rfl)
  refine st_val (rg12 g bm) h hg0 (o := o12_14) (v := .pointer (some ⟨g, 36, none⟩)) rfl rfl ?_ rfl rfl (by omega) rfl (by rw [sz12]; omega)
  have e1 : a.eval (.const (.int .i64 6)) = .int .i64 6 := rfl
  have e2 := idx_run g 6 (by omega) w
  have e3 : execOp a.eval o12_14 = (do let v ← Instr.indexAt 32 (a.eval (.tmp 55)) (a.eval (.const (.int .i64 6))); pure (.value v)) := rfl
  rw [e3, e0, e1, Sem.run_bind]
  have e4 : (Instr.indexAt 32 (.slice (some ⟨g, 0, none⟩) 15 15) (.int .i64 6)).run Try.prog w = .ok (.pointer (some ⟨g, 36, none⟩)) w := e2
  rw [e4]
  rfl
set_option maxRecDepth 20000 in
theorem s12_15 {g : Nat} {bm : Option Addr} {base : Nat} {P0 : List Tv} {rb : Nat → Nat} {w0 : World} {tm : Array Value} {listed : Array Bool} {a : Act} {w : World} {Q : Exit → Act → World → Prop} (h : Iv ops12 (sp12 g bm) ds12 g base P0 w0 tm listed a w) (hg0 : g < w0.heap.size) (hV : Vr g rb w0 tm) (hP : ∀ k, 5 ≤ k → k < 10 → P0[k]? = some (⟨63, 16384, 3, bm, 3, 3, bm, 3, 3, bm, 3, 3⟩ : Tv)) (hl : listed.getD 15 true = false) (hr : ∀ e ∈ o12_15.after, Region.binds .any e = true → listed.getD e.on false = true) : wpOp Try.prog ops12 Q 15 (fun a' w' => Iv ops12 (sp12 g bm) ds12 g base P0 w0 tm (listed.setIfInBounds 15 true) a' w') a w := by
  have e0 : a.eval (.tmp 67) = .pointer (some ⟨g, 36, none⟩) := h.val 14 (by rw [sz12]; omega) (hr ⟨14, .data⟩ (by simp [o12_15]) rfl)
  refine st_val (rg12 g bm) h hg0 (o := o12_15) (v := .pointer (some ⟨g, 39, none⟩)) rfl rfl ?_ rfl rfl (by omega) rfl (by rw [sz12]; omega)
  have e3 : execOp a.eval o12_15 = (do let v ← Instr.fieldAt 24 (a.eval (.tmp 67)) 3; pure (.value v)) := rfl
  rw [e3, e0, Sem.run_bind]
  have e4 : (Instr.fieldAt 24 (.pointer (some ⟨g, 36, none⟩)) 3).run Try.prog w = .ok (.pointer (some ⟨g, 39, none⟩)) w := fld_run g 36 3 (by omega) w
  rw [e4]
  rfl
set_option maxRecDepth 20000 in
theorem s12_16 {g : Nat} {bm : Option Addr} {base : Nat} {P0 : List Tv} {rb : Nat → Nat} {w0 : World} {tm : Array Value} {listed : Array Bool} {a : Act} {w : World} {Q : Exit → Act → World → Prop} (h : Iv ops12 (sp12 g bm) ds12 g base P0 w0 tm listed a w) (hg0 : g < w0.heap.size) (hV : Vr g rb w0 tm) (hP : ∀ k, 5 ≤ k → k < 10 → P0[k]? = some (⟨63, 16384, 3, bm, 3, 3, bm, 3, 3, bm, 3, 3⟩ : Tv)) (hl : listed.getD 16 true = false) (hr : ∀ e ∈ o12_16.after, Region.binds .any e = true → listed.getD e.on false = true) : wpOp Try.prog ops12 Q 16 (fun a' w' => Iv ops12 (sp12 g bm) ds12 g base P0 w0 tm (listed.setIfInBounds 16 true) a' w') a w := by
  have e0 : a.eval (.tmp 68) = .pointer (some ⟨g, 39, none⟩) := h.val 15 (by rw [sz12]; omega) (hr ⟨15, .data⟩ (by simp [o12_16]) rfl)
  exact st_sto (rg12 g bm) h hg0 (o := o12_16) (X := ⟨63, 16384, 3, none, 0, 0, bm, 3, 3, bm, 3, 3⟩) rfl rfl rfl (.inr (.inr rfl)) rfl (by rw [sz12]; omega) hl (k := 6) (by omega) (f := 3) (by omega) (by omega) e0 (v := .slice none 0 0) rfl (.inr ⟨_, _, _, rfl⟩) rfl (hP 6 (by omega) (by omega)) rfl (fun P w' hP _ => hP)
set_option maxRecDepth 20000 in
theorem s12_17 {g : Nat} {bm : Option Addr} {base : Nat} {P0 : List Tv} {rb : Nat → Nat} {w0 : World} {tm : Array Value} {listed : Array Bool} {a : Act} {w : World} {Q : Exit → Act → World → Prop} (h : Iv ops12 (sp12 g bm) ds12 g base P0 w0 tm listed a w) (hg0 : g < w0.heap.size) (hV : Vr g rb w0 tm) (hP : ∀ k, 5 ≤ k → k < 10 → P0[k]? = some (⟨63, 16384, 3, bm, 3, 3, bm, 3, 3, bm, 3, 3⟩ : Tv)) (hl : listed.getD 17 true = false) (hr : ∀ e ∈ o12_17.after, Region.binds .any e = true → listed.getD e.on false = true) : wpOp Try.prog ops12 Q 17 (fun a' w' => Iv ops12 (sp12 g bm) ds12 g base P0 w0 tm (listed.setIfInBounds 17 true) a' w') a w := by
  have e0 : a.eval (.tmp 56) = .slice (some ⟨g, 0, none⟩) 15 15 := h.val 2 (by rw [sz12]; omega) (hr ⟨2, .data⟩ (by simp [o12_17]) rfl)
  refine st_val (rg12 g bm) h hg0 (o := o12_17) (v := .pointer (some ⟨g, 42, none⟩)) rfl rfl ?_ rfl rfl (by omega) rfl (by rw [sz12]; omega)
  have e1 : a.eval (.const (.int .i64 7)) = .int .i64 7 := rfl
  have e2 := idx_run g 7 (by omega) w
  have e3 : execOp a.eval o12_17 = (do let v ← Instr.indexAt 32 (a.eval (.tmp 56)) (a.eval (.const (.int .i64 7))); pure (.value v)) := rfl
  rw [e3, e0, e1, Sem.run_bind]
  have e4 : (Instr.indexAt 32 (.slice (some ⟨g, 0, none⟩) 15 15) (.int .i64 7)).run Try.prog w = .ok (.pointer (some ⟨g, 42, none⟩)) w := e2
  rw [e4]
  rfl
set_option maxRecDepth 20000 in
theorem s12_18 {g : Nat} {bm : Option Addr} {base : Nat} {P0 : List Tv} {rb : Nat → Nat} {w0 : World} {tm : Array Value} {listed : Array Bool} {a : Act} {w : World} {Q : Exit → Act → World → Prop} (h : Iv ops12 (sp12 g bm) ds12 g base P0 w0 tm listed a w) (hg0 : g < w0.heap.size) (hV : Vr g rb w0 tm) (hP : ∀ k, 5 ≤ k → k < 10 → P0[k]? = some (⟨63, 16384, 3, bm, 3, 3, bm, 3, 3, bm, 3, 3⟩ : Tv)) (hl : listed.getD 18 true = false) (hr : ∀ e ∈ o12_18.after, Region.binds .any e = true → listed.getD e.on false = true) : wpOp Try.prog ops12 Q 18 (fun a' w' => Iv ops12 (sp12 g bm) ds12 g base P0 w0 tm (listed.setIfInBounds 18 true) a' w') a w := by
  have e0 : a.eval (.tmp 69) = .pointer (some ⟨g, 42, none⟩) := h.val 17 (by rw [sz12]; omega) (hr ⟨17, .data⟩ (by simp [o12_18]) rfl)
  refine st_val (rg12 g bm) h hg0 (o := o12_18) (v := .pointer (some ⟨g, 45, none⟩)) rfl rfl ?_ rfl rfl (by omega) rfl (by rw [sz12]; omega)
  have e3 : execOp a.eval o12_18 = (do let v ← Instr.fieldAt 24 (a.eval (.tmp 69)) 3; pure (.value v)) := rfl
  rw [e3, e0, Sem.run_bind]
  have e4 : (Instr.fieldAt 24 (.pointer (some ⟨g, 42, none⟩)) 3).run Try.prog w = .ok (.pointer (some ⟨g, 45, none⟩)) w := fld_run g 42 3 (by omega) w
  rw [e4]
  rfl
set_option maxRecDepth 20000 in
theorem s12_19 {g : Nat} {bm : Option Addr} {base : Nat} {P0 : List Tv} {rb : Nat → Nat} {w0 : World} {tm : Array Value} {listed : Array Bool} {a : Act} {w : World} {Q : Exit → Act → World → Prop} (h : Iv ops12 (sp12 g bm) ds12 g base P0 w0 tm listed a w) (hg0 : g < w0.heap.size) (hV : Vr g rb w0 tm) (hP : ∀ k, 5 ≤ k → k < 10 → P0[k]? = some (⟨63, 16384, 3, bm, 3, 3, bm, 3, 3, bm, 3, 3⟩ : Tv)) (hl : listed.getD 19 true = false) (hr : ∀ e ∈ o12_19.after, Region.binds .any e = true → listed.getD e.on false = true) : wpOp Try.prog ops12 Q 19 (fun a' w' => Iv ops12 (sp12 g bm) ds12 g base P0 w0 tm (listed.setIfInBounds 19 true) a' w') a w := by
  have e0 : a.eval (.tmp 70) = .pointer (some ⟨g, 45, none⟩) := h.val 18 (by rw [sz12]; omega) (hr ⟨18, .data⟩ (by simp [o12_19]) rfl)
  obtain ⟨b, hb, e1, hrd⟩ := h.val 6 (by rw [sz12]; omega) (hr ⟨6, .data⟩ (by simp [o12_19]) rfl)
  have e1 : a.eval (.tmp 60) = .slice (some ⟨b, 0, none⟩) 1 1 := e1
  exact st_sto (rg12 g bm) h hg0 (o := o12_19) (X := (fun q => ⟨63, 16384, 3, q, 1, 1, bm, 3, 3, bm, 3, 3⟩) (some ⟨b, 0, none⟩)) rfl rfl rfl (.inr (.inr rfl)) rfl (by rw [sz12]; omega) hl (k := 7) (by omega) (f := 3) (by omega) (by omega) e0 e1 (.inr ⟨_, _, _, rfl⟩) rfl (hP 7 (by omega) (by omega)) rfl (fun P w' hP hk => ⟨b, hb, hP, rd_kp0 hrd (by omega) hk⟩)
set_option maxRecDepth 20000 in
theorem s12_20 {g : Nat} {bm : Option Addr} {base : Nat} {P0 : List Tv} {rb : Nat → Nat} {w0 : World} {tm : Array Value} {listed : Array Bool} {a : Act} {w : World} {Q : Exit → Act → World → Prop} (h : Iv ops12 (sp12 g bm) ds12 g base P0 w0 tm listed a w) (hg0 : g < w0.heap.size) (hV : Vr g rb w0 tm) (hP : ∀ k, 5 ≤ k → k < 10 → P0[k]? = some (⟨63, 16384, 3, bm, 3, 3, bm, 3, 3, bm, 3, 3⟩ : Tv)) (hl : listed.getD 20 true = false) (hr : ∀ e ∈ o12_20.after, Region.binds .any e = true → listed.getD e.on false = true) : wpOp Try.prog ops12 Q 20 (fun a' w' => Iv ops12 (sp12 g bm) ds12 g base P0 w0 tm (listed.setIfInBounds 20 true) a' w') a w := by
  have e0 : a.eval (.tmp 57) = .slice (some ⟨g, 0, none⟩) 15 15 := h.val 3 (by rw [sz12]; omega) (hr ⟨3, .data⟩ (by simp [o12_20]) rfl)
  refine st_val (rg12 g bm) h hg0 (o := o12_20) (v := .pointer (some ⟨g, 48, none⟩)) rfl rfl ?_ rfl rfl (by omega) rfl (by rw [sz12]; omega)
  have e1 : a.eval (.const (.int .i64 8)) = .int .i64 8 := rfl
  have e2 := idx_run g 8 (by omega) w
  have e3 : execOp a.eval o12_20 = (do let v ← Instr.indexAt 32 (a.eval (.tmp 57)) (a.eval (.const (.int .i64 8))); pure (.value v)) := rfl
  rw [e3, e0, e1, Sem.run_bind]
  have e4 : (Instr.indexAt 32 (.slice (some ⟨g, 0, none⟩) 15 15) (.int .i64 8)).run Try.prog w = .ok (.pointer (some ⟨g, 48, none⟩)) w := e2
  rw [e4]
  rfl
set_option maxRecDepth 20000 in
theorem s12_21 {g : Nat} {bm : Option Addr} {base : Nat} {P0 : List Tv} {rb : Nat → Nat} {w0 : World} {tm : Array Value} {listed : Array Bool} {a : Act} {w : World} {Q : Exit → Act → World → Prop} (h : Iv ops12 (sp12 g bm) ds12 g base P0 w0 tm listed a w) (hg0 : g < w0.heap.size) (hV : Vr g rb w0 tm) (hP : ∀ k, 5 ≤ k → k < 10 → P0[k]? = some (⟨63, 16384, 3, bm, 3, 3, bm, 3, 3, bm, 3, 3⟩ : Tv)) (hl : listed.getD 21 true = false) (hr : ∀ e ∈ o12_21.after, Region.binds .any e = true → listed.getD e.on false = true) : wpOp Try.prog ops12 Q 21 (fun a' w' => Iv ops12 (sp12 g bm) ds12 g base P0 w0 tm (listed.setIfInBounds 21 true) a' w') a w := by
  have e0 : a.eval (.tmp 71) = .pointer (some ⟨g, 48, none⟩) := h.val 20 (by rw [sz12]; omega) (hr ⟨20, .data⟩ (by simp [o12_21]) rfl)
  refine st_val (rg12 g bm) h hg0 (o := o12_21) (v := .pointer (some ⟨g, 52, none⟩)) rfl rfl ?_ rfl rfl (by omega) rfl (by rw [sz12]; omega)
  have e3 : execOp a.eval o12_21 = (do let v ← Instr.fieldAt 24 (a.eval (.tmp 71)) 4; pure (.value v)) := rfl
  rw [e3, e0, Sem.run_bind]
  have e4 : (Instr.fieldAt 24 (.pointer (some ⟨g, 48, none⟩)) 4).run Try.prog w = .ok (.pointer (some ⟨g, 52, none⟩)) w := fld_run g 48 4 (by omega) w
  rw [e4]
  rfl
set_option maxRecDepth 20000 in
theorem s12_22 {g : Nat} {bm : Option Addr} {base : Nat} {P0 : List Tv} {rb : Nat → Nat} {w0 : World} {tm : Array Value} {listed : Array Bool} {a : Act} {w : World} {Q : Exit → Act → World → Prop} (h : Iv ops12 (sp12 g bm) ds12 g base P0 w0 tm listed a w) (hg0 : g < w0.heap.size) (hV : Vr g rb w0 tm) (hP : ∀ k, 5 ≤ k → k < 10 → P0[k]? = some (⟨63, 16384, 3, bm, 3, 3, bm, 3, 3, bm, 3, 3⟩ : Tv)) (hl : listed.getD 22 true = false) (hr : ∀ e ∈ o12_22.after, Region.binds .any e = true → listed.getD e.on false = true) : wpOp Try.prog ops12 Q 22 (fun a' w' => Iv ops12 (sp12 g bm) ds12 g base P0 w0 tm (listed.setIfInBounds 22 true) a' w') a w := by
  have e0 : a.eval (.tmp 72) = .pointer (some ⟨g, 52, none⟩) := h.val 21 (by rw [sz12]; omega) (hr ⟨21, .data⟩ (by simp [o12_22]) rfl)
  obtain ⟨b, hb, e1, hrd⟩ := h.val 8 (by rw [sz12]; omega) (hr ⟨8, .data⟩ (by simp [o12_22]) rfl)
  have e1 : a.eval (.tmp 62) = .slice (some ⟨b, 0, none⟩) 1 1 := e1
  exact st_sto (rg12 g bm) h hg0 (o := o12_22) (X := (fun q => ⟨63, 16384, 3, bm, 3, 3, q, 1, 1, bm, 3, 3⟩) (some ⟨b, 0, none⟩)) rfl rfl rfl (.inr (.inr rfl)) rfl (by rw [sz12]; omega) hl (k := 8) (by omega) (f := 4) (by omega) (by omega) e0 e1 (.inr ⟨_, _, _, rfl⟩) rfl (hP 8 (by omega) (by omega)) rfl (fun P w' hP hk => ⟨b, hb, hP, rd_kp0 hrd (by omega) hk⟩)
set_option maxRecDepth 20000 in
theorem s12_23 {g : Nat} {bm : Option Addr} {base : Nat} {P0 : List Tv} {rb : Nat → Nat} {w0 : World} {tm : Array Value} {listed : Array Bool} {a : Act} {w : World} {Q : Exit → Act → World → Prop} (h : Iv ops12 (sp12 g bm) ds12 g base P0 w0 tm listed a w) (hg0 : g < w0.heap.size) (hV : Vr g rb w0 tm) (hP : ∀ k, 5 ≤ k → k < 10 → P0[k]? = some (⟨63, 16384, 3, bm, 3, 3, bm, 3, 3, bm, 3, 3⟩ : Tv)) (hl : listed.getD 23 true = false) (hr : ∀ e ∈ o12_23.after, Region.binds .any e = true → listed.getD e.on false = true) : wpOp Try.prog ops12 Q 23 (fun a' w' => Iv ops12 (sp12 g bm) ds12 g base P0 w0 tm (listed.setIfInBounds 23 true) a' w') a w := by
  have e0 : a.eval (.tmp 58) = .slice (some ⟨g, 0, none⟩) 15 15 := h.val 4 (by rw [sz12]; omega) (hr ⟨4, .data⟩ (by simp [o12_23]) rfl)
  refine st_val (rg12 g bm) h hg0 (o := o12_23) (v := .pointer (some ⟨g, 54, none⟩)) rfl rfl ?_ rfl rfl (by omega) rfl (by rw [sz12]; omega)
  have e1 : a.eval (.const (.int .i64 9)) = .int .i64 9 := rfl
  have e2 := idx_run g 9 (by omega) w
  have e3 : execOp a.eval o12_23 = (do let v ← Instr.indexAt 32 (a.eval (.tmp 58)) (a.eval (.const (.int .i64 9))); pure (.value v)) := rfl
  rw [e3, e0, e1, Sem.run_bind]
  have e4 : (Instr.indexAt 32 (.slice (some ⟨g, 0, none⟩) 15 15) (.int .i64 9)).run Try.prog w = .ok (.pointer (some ⟨g, 54, none⟩)) w := e2
  rw [e4]
  rfl
set_option maxRecDepth 20000 in
theorem s12_24 {g : Nat} {bm : Option Addr} {base : Nat} {P0 : List Tv} {rb : Nat → Nat} {w0 : World} {tm : Array Value} {listed : Array Bool} {a : Act} {w : World} {Q : Exit → Act → World → Prop} (h : Iv ops12 (sp12 g bm) ds12 g base P0 w0 tm listed a w) (hg0 : g < w0.heap.size) (hV : Vr g rb w0 tm) (hP : ∀ k, 5 ≤ k → k < 10 → P0[k]? = some (⟨63, 16384, 3, bm, 3, 3, bm, 3, 3, bm, 3, 3⟩ : Tv)) (hl : listed.getD 24 true = false) (hr : ∀ e ∈ o12_24.after, Region.binds .any e = true → listed.getD e.on false = true) : wpOp Try.prog ops12 Q 24 (fun a' w' => Iv ops12 (sp12 g bm) ds12 g base P0 w0 tm (listed.setIfInBounds 24 true) a' w') a w := by
  have e0 : a.eval (.tmp 73) = .pointer (some ⟨g, 54, none⟩) := h.val 23 (by rw [sz12]; omega) (hr ⟨23, .data⟩ (by simp [o12_24]) rfl)
  refine st_val (rg12 g bm) h hg0 (o := o12_24) (v := .pointer (some ⟨g, 59, none⟩)) rfl rfl ?_ rfl rfl (by omega) rfl (by rw [sz12]; omega)
  have e3 : execOp a.eval o12_24 = (do let v ← Instr.fieldAt 24 (a.eval (.tmp 73)) 5; pure (.value v)) := rfl
  rw [e3, e0, Sem.run_bind]
  have e4 : (Instr.fieldAt 24 (.pointer (some ⟨g, 54, none⟩)) 5).run Try.prog w = .ok (.pointer (some ⟨g, 59, none⟩)) w := fld_run g 54 5 (by omega) w
  rw [e4]
  rfl
set_option maxRecDepth 20000 in
theorem s12_25 {g : Nat} {bm : Option Addr} {base : Nat} {P0 : List Tv} {rb : Nat → Nat} {w0 : World} {tm : Array Value} {listed : Array Bool} {a : Act} {w : World} {Q : Exit → Act → World → Prop} (h : Iv ops12 (sp12 g bm) ds12 g base P0 w0 tm listed a w) (hg0 : g < w0.heap.size) (hV : Vr g rb w0 tm) (hP : ∀ k, 5 ≤ k → k < 10 → P0[k]? = some (⟨63, 16384, 3, bm, 3, 3, bm, 3, 3, bm, 3, 3⟩ : Tv)) (hl : listed.getD 25 true = false) (hr : ∀ e ∈ o12_25.after, Region.binds .any e = true → listed.getD e.on false = true) : wpOp Try.prog ops12 Q 25 (fun a' w' => Iv ops12 (sp12 g bm) ds12 g base P0 w0 tm (listed.setIfInBounds 25 true) a' w') a w := by
  have e0 : a.eval (.tmp 74) = .pointer (some ⟨g, 59, none⟩) := h.val 24 (by rw [sz12]; omega) (hr ⟨24, .data⟩ (by simp [o12_25]) rfl)
  obtain ⟨b, hb, e1, hrd⟩ := h.val 10 (by rw [sz12]; omega) (hr ⟨10, .data⟩ (by simp [o12_25]) rfl)
  have e1 : a.eval (.tmp 64) = .slice (some ⟨b, 0, none⟩) 1 1 := e1
  exact st_sto (rg12 g bm) h hg0 (o := o12_25) (X := (fun q => ⟨63, 16384, 3, bm, 3, 3, bm, 3, 3, q, 1, 1⟩) (some ⟨b, 0, none⟩)) rfl rfl rfl (.inr (.inr rfl)) rfl (by rw [sz12]; omega) hl (k := 9) (by omega) (f := 5) (by omega) (by omega) e0 e1 (.inr ⟨_, _, _, rfl⟩) rfl (hP 9 (by omega) (by omega)) rfl (fun P w' hP hk => ⟨b, hb, hP, rd_kp0 hrd (by omega) hk⟩)
theorem step12 {g : Nat} {bm : Option Addr} {base : Nat} {P0 : List Tv} {rb : Nat → Nat} {w0 : World} {tm : Array Value} {listed : Array Bool} {a : Act} {w : World} {Q : Exit → Act → World → Prop} (h : Iv ops12 (sp12 g bm) ds12 g base P0 w0 tm listed a w) (hg0 : g < w0.heap.size) (hV : Vr g rb w0 tm) (hP : ∀ k, 5 ≤ k → k < 10 → P0[k]? = some (⟨63, 16384, 3, bm, 3, 3, bm, 3, 3, bm, 3, 3⟩ : Tv)) : ∀ (i : Nat) (o : Oper), i < 26 → listed.getD i true = false → ops12[i]? = some o → (∀ e ∈ o.after, Region.binds .any e = true → listed.getD e.on false = true) → wpOp Try.prog ops12 Q i (fun a' w' => Iv ops12 (sp12 g bm) ds12 g base P0 w0 tm (listed.setIfInBounds i true) a' w') a w
  | 0, o, _, hl, ho, hr => by
    obtain rfl : o12_0 = o := Option.some.inj ho
    exact s12_0 h hg0 hV hP hl hr
  | 1, o, _, hl, ho, hr => by
    obtain rfl : o12_1 = o := Option.some.inj ho
    exact s12_1 h hg0 hV hP hl hr
  | 2, o, _, hl, ho, hr => by
    obtain rfl : o12_2 = o := Option.some.inj ho
    exact s12_2 h hg0 hV hP hl hr
  | 3, o, _, hl, ho, hr => by
    obtain rfl : o12_3 = o := Option.some.inj ho
    exact s12_3 h hg0 hV hP hl hr
  | 4, o, _, hl, ho, hr => by
    obtain rfl : o12_4 = o := Option.some.inj ho
    exact s12_4 h hg0 hV hP hl hr
  | 5, o, _, hl, ho, hr => by
    obtain rfl : o12_5 = o := Option.some.inj ho
    exact s12_5 h hg0 hV hP hl hr
  | 6, o, _, hl, ho, hr => by
    obtain rfl : o12_6 = o := Option.some.inj ho
    exact s12_6 h hg0 hV hP hl hr
  | 7, o, _, hl, ho, hr => by
    obtain rfl : o12_7 = o := Option.some.inj ho
    exact s12_7 h hg0 hV hP hl hr
  | 8, o, _, hl, ho, hr => by
    obtain rfl : o12_8 = o := Option.some.inj ho
    exact s12_8 h hg0 hV hP hl hr
  | 9, o, _, hl, ho, hr => by
    obtain rfl : o12_9 = o := Option.some.inj ho
    exact s12_9 h hg0 hV hP hl hr
  | 10, o, _, hl, ho, hr => by
    obtain rfl : o12_10 = o := Option.some.inj ho
    exact s12_10 h hg0 hV hP hl hr
  | 11, o, _, hl, ho, hr => by
    obtain rfl : o12_11 = o := Option.some.inj ho
    exact s12_11 h hg0 hV hP hl hr
  | 12, o, _, hl, ho, hr => by
    obtain rfl : o12_12 = o := Option.some.inj ho
    exact s12_12 h hg0 hV hP hl hr
  | 13, o, _, hl, ho, hr => by
    obtain rfl : o12_13 = o := Option.some.inj ho
    exact s12_13 h hg0 hV hP hl hr
  | 14, o, _, hl, ho, hr => by
    obtain rfl : o12_14 = o := Option.some.inj ho
    exact s12_14 h hg0 hV hP hl hr
  | 15, o, _, hl, ho, hr => by
    obtain rfl : o12_15 = o := Option.some.inj ho
    exact s12_15 h hg0 hV hP hl hr
  | 16, o, _, hl, ho, hr => by
    obtain rfl : o12_16 = o := Option.some.inj ho
    exact s12_16 h hg0 hV hP hl hr
  | 17, o, _, hl, ho, hr => by
    obtain rfl : o12_17 = o := Option.some.inj ho
    exact s12_17 h hg0 hV hP hl hr
  | 18, o, _, hl, ho, hr => by
    obtain rfl : o12_18 = o := Option.some.inj ho
    exact s12_18 h hg0 hV hP hl hr
  | 19, o, _, hl, ho, hr => by
    obtain rfl : o12_19 = o := Option.some.inj ho
    exact s12_19 h hg0 hV hP hl hr
  | 20, o, _, hl, ho, hr => by
    obtain rfl : o12_20 = o := Option.some.inj ho
    exact s12_20 h hg0 hV hP hl hr
  | 21, o, _, hl, ho, hr => by
    obtain rfl : o12_21 = o := Option.some.inj ho
    exact s12_21 h hg0 hV hP hl hr
  | 22, o, _, hl, ho, hr => by
    obtain rfl : o12_22 = o := Option.some.inj ho
    exact s12_22 h hg0 hV hP hl hr
  | 23, o, _, hl, ho, hr => by
    obtain rfl : o12_23 = o := Option.some.inj ho
    exact s12_23 h hg0 hV hP hl hr
  | 24, o, _, hl, ho, hr => by
    obtain rfl : o12_24 = o := Option.some.inj ho
    exact s12_24 h hg0 hV hP hl hr
  | 25, o, _, hl, ho, hr => by
    obtain rfl : o12_25 = o := Option.some.inj ho
    exact s12_25 h hg0 hV hP hl hr
  | i + 26, _, h, _, _, _ => absurd h (by omega)
set_option maxRecDepth 100000 in
theorem ahead12 : ∀ (i : Nat) (o : Oper), ops12[i]? = some o → ∀ e ∈ o.after, Region.binds .any e = true → e.on < i := by
  have hb : ((List.range 26).all fun i => (ops12.getD i default).after.all fun e => !(Region.binds .any e) || decide (e.on < i)) = true := by kernel_rfl
  intro i o ho e he hbd
  have hi : i < 26 := by
    have := (Array.getElem?_eq_some_iff.1 ho).1
    rw [sz12] at this
    exact this
  have h1 := List.all_eq_true.1 hb i (by simpa using hi)
  have h2 : ops12.getD i default = o := by rw [Array.getD_eq_getD_getElem?, ho]; rfl
  rw [h2] at h1
  have h3 := (Array.all_eq_true_iff_forall_mem.1 h1) e he
  rw [hbd] at h3
  simpa using h3
end Go.Proofs.Ytonholadabebbaa
