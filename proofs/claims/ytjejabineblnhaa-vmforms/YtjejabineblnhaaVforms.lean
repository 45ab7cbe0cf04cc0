/-
  The law VmForms, walked.
-/
import Derived.Test.YtjejabineblnhaaVrunm
import Derived.WalkSpells
namespace Go.Proofs.Ytjejabineblnhaa
open Go.ChangeShapes Go.WideShapes Go.ChangeAt Go.RowKit
attribute [local go_sem ↓] Go.wp_at_zero Go.wp_at_succ
theorem f1_0 (w : World) (b : Nat) (h : w.heap[b]? = some (.cells #[.int .i64 1, .int .i64 2, .int .i64 0, .int .i64 (-9), .int .i64 2, .int .i64 0, .int .i64 1, .int .i64 0, .int .i64 3, .int .i64 0, .int .i64 1, .int .i64 0, .int .i64 4, .int .i64 0, .int .i64 1, .int .i64 0, .int .i64 5, .int .i64 0, .int .i64 0, .int .i64 3, .int .i64 5, .int .i64 1, .int .i64 0, .int .i64 (-1), .int .i64 6, .int .i64 0, .int .i64 0, .int .i64 2, .int .i64 11, .int .i64 0, .int .i64 0, .int .i64 0] 38 (0, 0))) : Calls Try.prog 19 #[.slice (some ⟨b, 0, none⟩) 8 8, .agg #[.int .i64 0, .int .i64 6, .int .i64 (-4), .int .i64 0, .int .i64 0, .int .i64 0, .int .i64 0, .int .i64 0, .int .i64 0, .slice none 0 0, .bool false]] w fun e w' => (∃ (q9 : Option Addr) (d9 : Nat), e = .returned (.tuple #[.agg #[.int .i64 1, .int .i64 6, .int .i64 (-4), .int .i64 (-9), .int .i64 0, .int .i64 0, .int .i64 0, .int .i64 0, .int .i64 0, .slice q9 0 d9, .bool false], .agg #[.int .i64 1, .int .i64 2, .int .i64 0, .int .i64 (-9)], .bool true]) ∧ Own eRp w' (w.heap.size + 3) 52 q9 d9 []) ∧ Below w.heap.size w w' :=
  vstep_c _ 8 [(1, 2, 0, (-9)), (2, 0, 1, 0), (3, 0, 1, 0), (4, 0, 1, 0), (5, 0, 0, 3), (5, 1, 0, (-1)), (6, 0, 0, 2), (11, 0, 0, 0)] w (rd_ins h 8 rfl rfl) 8 rfl (by decide) 0 6 (-4) 0 0 0 0 0 0 (by decide) none 0 0 [] (rd_nil _) rfl (by decide) (by decide) false 1 6 (-4) (-9) 0 0 0 0 0 [] false 1 2 0 (-9) true 0 (by kernel_rfl) rfl
theorem f1_1 (w : World) (b : Nat) (h : w.heap[b]? = some (.cells #[.int .i64 1, .int .i64 2, .int .i64 0, .int .i64 (-9), .int .i64 2, .int .i64 0, .int .i64 1, .int .i64 0, .int .i64 3, .int .i64 0, .int .i64 1, .int .i64 0, .int .i64 4, .int .i64 0, .int .i64 1, .int .i64 0, .int .i64 5, .int .i64 0, .int .i64 0, .int .i64 3, .int .i64 5, .int .i64 1, .int .i64 0, .int .i64 (-1), .int .i64 6, .int .i64 0, .int .i64 0, .int .i64 2, .int .i64 11, .int .i64 0, .int .i64 0, .int .i64 0] 38 (0, 0))) : Calls Try.prog 19 #[.slice (some ⟨b, 0, none⟩) 8 8, .agg #[.int .i64 1, .int .i64 6, .int .i64 (-4), .int .i64 0, .int .i64 0, .int .i64 0, .int .i64 0, .int .i64 0, .int .i64 0, .slice none 0 0, .bool false]] w fun e w' => (∃ (q9 : Option Addr) (d9 : Nat), e = .returned (.tuple #[.agg #[.int .i64 2, .int .i64 2, .int .i64 (-4), .int .i64 0, .int .i64 0, .int .i64 0, .int .i64 0, .int .i64 0, .int .i64 0, .slice q9 0 d9, .bool false], .agg #[.int .i64 2, .int .i64 0, .int .i64 1, .int .i64 0], .bool true]) ∧ Own eRp w' (w.heap.size + 3) 52 q9 d9 []) ∧ Below w.heap.size w w' :=
  vstep_c _ 8 [(1, 2, 0, (-9)), (2, 0, 1, 0), (3, 0, 1, 0), (4, 0, 1, 0), (5, 0, 0, 3), (5, 1, 0, (-1)), (6, 0, 0, 2), (11, 0, 0, 0)] w (rd_ins h 8 rfl rfl) 8 rfl (by decide) 1 6 (-4) 0 0 0 0 0 0 (by decide) none 0 0 [] (rd_nil _) rfl (by decide) (by decide) false 2 2 (-4) 0 0 0 0 0 0 [] false 2 0 1 0 true 0 (by kernel_rfl) rfl
theorem f1_2 (w : World) (b : Nat) (h : w.heap[b]? = some (.cells #[.int .i64 1, .int .i64 2, .int .i64 0, .int .i64 (-9), .int .i64 2, .int .i64 0, .int .i64 1, .int .i64 0, .int .i64 3, .int .i64 0, .int .i64 1, .int .i64 0, .int .i64 4, .int .i64 0, .int .i64 1, .int .i64 0, .int .i64 5, .int .i64 0, .int .i64 0, .int .i64 3, .int .i64 5, .int .i64 1, .int .i64 0, .int .i64 (-1), .int .i64 6, .int .i64 0, .int .i64 0, .int .i64 2, .int .i64 11, .int .i64 0, .int .i64 0, .int .i64 0] 38 (0, 0))) : Calls Try.prog 19 #[.slice (some ⟨b, 0, none⟩) 8 8, .agg #[.int .i64 2, .int .i64 6, .int .i64 (-4), .int .i64 0, .int .i64 0, .int .i64 0, .int .i64 0, .int .i64 0, .int .i64 0, .slice none 0 0, .bool false]] w fun e w' => (∃ (q9 : Option Addr) (d9 : Nat), e = .returned (.tuple #[.agg #[.int .i64 3, .int .i64 10, .int .i64 (-4), .int .i64 0, .int .i64 0, .int .i64 0, .int .i64 0, .int .i64 0, .int .i64 0, .slice q9 0 d9, .bool false], .agg #[.int .i64 3, .int .i64 0, .int .i64 1, .int .i64 0], .bool true]) ∧ Own eRp w' (w.heap.size + 3) 52 q9 d9 []) ∧ Below w.heap.size w w' :=
  vstep_c _ 8 [(1, 2, 0, (-9)), (2, 0, 1, 0), (3, 0, 1, 0), (4, 0, 1, 0), (5, 0, 0, 3), (5, 1, 0, (-1)), (6, 0, 0, 2), (11, 0, 0, 0)] w (rd_ins h 8 rfl rfl) 8 rfl (by decide) 2 6 (-4) 0 0 0 0 0 0 (by decide) none 0 0 [] (rd_nil _) rfl (by decide) (by decide) false 3 10 (-4) 0 0 0 0 0 0 [] false 3 0 1 0 true 0 (by kernel_rfl) rfl
theorem f1_3 (w : World) (b : Nat) (h : w.heap[b]? = some (.cells #[.int .i64 1, .int .i64 2, .int .i64 0, .int .i64 (-9), .int .i64 2, .int .i64 0, .int .i64 1, .int .i64 0, .int .i64 3, .int .i64 0, .int .i64 1, .int .i64 0, .int .i64 4, .int .i64 0, .int .i64 1, .int .i64 0, .int .i64 5, .int .i64 0, .int .i64 0, .int .i64 3, .int .i64 5, .int .i64 1, .int .i64 0, .int .i64 (-1), .int .i64 6, .int .i64 0, .int .i64 0, .int .i64 2, .int .i64 11, .int .i64 0, .int .i64 0, .int .i64 0] 38 (0, 0))) : Calls Try.prog 19 #[.slice (some ⟨b, 0, none⟩) 8 8, .agg #[.int .i64 3, .int .i64 6, .int .i64 (-4), .int .i64 0, .int .i64 0, .int .i64 0, .int .i64 0, .int .i64 0, .int .i64 0, .slice none 0 0, .bool false]] w fun e w' => (∃ (q9 : Option Addr) (d9 : Nat), e = .returned (.tuple #[.agg #[.int .i64 4, .int .i64 (-24), .int .i64 (-4), .int .i64 0, .int .i64 0, .int .i64 0, .int .i64 0, .int .i64 0, .int .i64 0, .slice q9 0 d9, .bool false], .agg #[.int .i64 4, .int .i64 0, .int .i64 1, .int .i64 0], .bool true]) ∧ Own eRp w' (w.heap.size + 3) 52 q9 d9 []) ∧ Below w.heap.size w w' :=
  vstep_c _ 8 [(1, 2, 0, (-9)), (2, 0, 1, 0), (3, 0, 1, 0), (4, 0, 1, 0), (5, 0, 0, 3), (5, 1, 0, (-1)), (6, 0, 0, 2), (11, 0, 0, 0)] w (rd_ins h 8 rfl rfl) 8 rfl (by decide) 3 6 (-4) 0 0 0 0 0 0 (by decide) none 0 0 [] (rd_nil _) rfl (by decide) (by decide) false 4 (-24) (-4) 0 0 0 0 0 0 [] false 4 0 1 0 true 0 (by kernel_rfl) rfl
theorem f1_4 (w : World) (b : Nat) (h : w.heap[b]? = some (.cells #[.int .i64 1, .int .i64 2, .int .i64 0, .int .i64 (-9), .int .i64 2, .int .i64 0, .int .i64 1, .int .i64 0, .int .i64 3, .int .i64 0, .int .i64 1, .int .i64 0, .int .i64 4, .int .i64 0, .int .i64 1, .int .i64 0, .int .i64 5, .int .i64 0, .int .i64 0, .int .i64 3, .int .i64 5, .int .i64 1, .int .i64 0, .int .i64 (-1), .int .i64 6, .int .i64 0, .int .i64 0, .int .i64 2, .int .i64 11, .int .i64 0, .int .i64 0, .int .i64 0] 38 (0, 0))) : Calls Try.prog 19 #[.slice (some ⟨b, 0, none⟩) 8 8, .agg #[.int .i64 4, .int .i64 6, .int .i64 (-4), .int .i64 0, .int .i64 0, .int .i64 0, .int .i64 0, .int .i64 0, .int .i64 0, .slice none 0 0, .bool false]] w fun e w' => (∃ (q9 : Option Addr) (d9 : Nat), e = .returned (.tuple #[.agg #[.int .i64 5, .int .i64 48, .int .i64 (-4), .int .i64 0, .int .i64 0, .int .i64 0, .int .i64 0, .int .i64 0, .int .i64 0, .slice q9 0 d9, .bool false], .agg #[.int .i64 5, .int .i64 0, .int .i64 0, .int .i64 3], .bool true]) ∧ Own eRp w' (w.heap.size + 3) 52 q9 d9 []) ∧ Below w.heap.size w w' :=
  vstep_c _ 8 [(1, 2, 0, (-9)), (2, 0, 1, 0), (3, 0, 1, 0), (4, 0, 1, 0), (5, 0, 0, 3), (5, 1, 0, (-1)), (6, 0, 0, 2), (11, 0, 0, 0)] w (rd_ins h 8 rfl rfl) 8 rfl (by decide) 4 6 (-4) 0 0 0 0 0 0 (by decide) none 0 0 [] (rd_nil _) rfl (by decide) (by decide) false 5 48 (-4) 0 0 0 0 0 0 [] false 5 0 0 3 true 0 (by kernel_rfl) rfl
theorem f1_5 (w : World) (b : Nat) (h : w.heap[b]? = some (.cells #[.int .i64 1, .int .i64 2, .int .i64 0, .int .i64 (-9), .int .i64 2, .int .i64 0, .int .i64 1, .int .i64 0, .int .i64 3, .int .i64 0, .int .i64 1, .int .i64 0, .int .i64 4, .int .i64 0, .int .i64 1, .int .i64 0, .int .i64 5, .int .i64 0, .int .i64 0, .int .i64 3, .int .i64 5, .int .i64 1, .int .i64 0, .int .i64 (-1), .int .i64 6, .int .i64 0, .int .i64 0, .int .i64 2, .int .i64 11, .int .i64 0, .int .i64 0, .int .i64 0] 38 (0, 0))) : Calls Try.prog 19 #[.slice (some ⟨b, 0, none⟩) 8 8, .agg #[.int .i64 5, .int .i64 6, .int .i64 (-4), .int .i64 0, .int .i64 0, .int .i64 0, .int .i64 0, .int .i64 0, .int .i64 0, .slice none 0 0, .bool false]] w fun e w' => (∃ (q9 : Option Addr) (d9 : Nat), e = .returned (.tuple #[.agg #[.int .i64 6, .int .i64 6, .int .i64 (-2), .int .i64 0, .int .i64 0, .int .i64 0, .int .i64 0, .int .i64 0, .int .i64 0, .slice q9 0 d9, .bool false], .agg #[.int .i64 5, .int .i64 1, .int .i64 0, .int .i64 (-1)], .bool true]) ∧ Own eRp w' (w.heap.size + 3) 52 q9 d9 []) ∧ Below w.heap.size w w' :=
  vstep_c _ 8 [(1, 2, 0, (-9)), (2, 0, 1, 0), (3, 0, 1, 0), (4, 0, 1, 0), (5, 0, 0, 3), (5, 1, 0, (-1)), (6, 0, 0, 2), (11, 0, 0, 0)] w (rd_ins h 8 rfl rfl) 8 rfl (by decide) 5 6 (-4) 0 0 0 0 0 0 (by decide) none 0 0 [] (rd_nil _) rfl (by decide) (by decide) false 6 6 (-2) 0 0 0 0 0 0 [] false 5 1 0 (-1) true 0 (by kernel_rfl) rfl
theorem f1_6 (w : World) (b : Nat) (h : w.heap[b]? = some (.cells #[.int .i64 1, .int .i64 2, .int .i64 0, .int .i64 (-9), .int .i64 2, .int .i64 0, .int .i64 1, .int .i64 0, .int .i64 3, .int .i64 0, .int .i64 1, .int .i64 0, .int .i64 4, .int .i64 0, .int .i64 1, .int .i64 0, .int .i64 5, .int .i64 0, .int .i64 0, .int .i64 3, .int .i64 5, .int .i64 1, .int .i64 0, .int .i64 (-1), .int .i64 6, .int .i64 0, .int .i64 0, .int .i64 2, .int .i64 11, .int .i64 0, .int .i64 0, .int .i64 0] 38 (0, 0))) : Calls Try.prog 19 #[.slice (some ⟨b, 0, none⟩) 8 8, .agg #[.int .i64 6, .int .i64 6, .int .i64 (-4), .int .i64 0, .int .i64 0, .int .i64 0, .int .i64 0, .int .i64 0, .int .i64 0, .slice none 0 0, .bool false]] w fun e w' => (∃ (q9 : Option Addr) (d9 : Nat), e = .returned (.tuple #[.agg #[.int .i64 7, .int .i64 (-2), .int .i64 (-4), .int .i64 0, .int .i64 0, .int .i64 0, .int .i64 0, .int .i64 0, .int .i64 0, .slice q9 0 d9, .bool false], .agg #[.int .i64 6, .int .i64 0, .int .i64 0, .int .i64 2], .bool true]) ∧ Own eRp w' (w.heap.size + 3) 52 q9 d9 []) ∧ Below w.heap.size w w' :=
  vstep_c _ 8 [(1, 2, 0, (-9)), (2, 0, 1, 0), (3, 0, 1, 0), (4, 0, 1, 0), (5, 0, 0, 3), (5, 1, 0, (-1)), (6, 0, 0, 2), (11, 0, 0, 0)] w (rd_ins h 8 rfl rfl) 8 rfl (by decide) 6 6 (-4) 0 0 0 0 0 0 (by decide) none 0 0 [] (rd_nil _) rfl (by decide) (by decide) false 7 (-2) (-4) 0 0 0 0 0 0 [] false 6 0 0 2 true 0 (by kernel_rfl) rfl
theorem f1_7 (w : World) (b : Nat) (h : w.heap[b]? = some (.cells #[.int .i64 1, .int .i64 2, .int .i64 0, .int .i64 (-9), .int .i64 2, .int .i64 0, .int .i64 1, .int .i64 0, .int .i64 3, .int .i64 0, .int .i64 1, .int .i64 0, .int .i64 4, .int .i64 0, .int .i64 1, .int .i64 0, .int .i64 5, .int .i64 0, .int .i64 0, .int .i64 3, .int .i64 5, .int .i64 1, .int .i64 0, .int .i64 (-1), .int .i64 6, .int .i64 0, .int .i64 0, .int .i64 2, .int .i64 11, .int .i64 0, .int .i64 0, .int .i64 0] 38 (0, 0))) : Calls Try.prog 19 #[.slice (some ⟨b, 0, none⟩) 8 8, .agg #[.int .i64 7, .int .i64 6, .int .i64 (-4), .int .i64 0, .int .i64 0, .int .i64 0, .int .i64 0, .int .i64 0, .int .i64 0, .slice none 0 0, .bool false]] w fun e w' => (∃ (q9 : Option Addr) (d9 : Nat), e = .returned (.tuple #[.agg #[.int .i64 8, .int .i64 6, .int .i64 (-4), .int .i64 0, .int .i64 0, .int .i64 0, .int .i64 0, .int .i64 0, .int .i64 0, .slice q9 0 d9, .bool false], .agg #[.int .i64 11, .int .i64 0, .int .i64 0, .int .i64 0], .bool true]) ∧ Own eRp w' (w.heap.size + 3) 52 q9 d9 []) ∧ Below w.heap.size w w' :=
  vstep_c _ 8 [(1, 2, 0, (-9)), (2, 0, 1, 0), (3, 0, 1, 0), (4, 0, 1, 0), (5, 0, 0, 3), (5, 1, 0, (-1)), (6, 0, 0, 2), (11, 0, 0, 0)] w (rd_ins h 8 rfl rfl) 8 rfl (by decide) 7 6 (-4) 0 0 0 0 0 0 (by decide) none 0 0 [] (rd_nil _) rfl (by decide) (by decide) false 8 6 (-4) 0 0 0 0 0 0 [] false 11 0 0 0 true 0 (by kernel_rfl) rfl
theorem f2_0 (w : World) (b : Nat) (h : w.heap[b]? = some (.cells #[.int .i64 7, .int .i64 3, .int .i64 0, .int .i64 2, .int .i64 7, .int .i64 0, .int .i64 0, .int .i64 2] 38 (0, 0))) : Calls Try.prog 19 #[.slice (some ⟨b, 0, none⟩) 2 2, .agg #[.int .i64 0, .int .i64 6, .int .i64 (-4), .int .i64 0, .int .i64 0, .int .i64 0, .int .i64 0, .int .i64 0, .int .i64 0, .slice none 0 0, .bool false]] w fun e w' => (∃ (q9 : Option Addr) (d9 : Nat), e = .returned (.tuple #[.agg #[.int .i64 3, .int .i64 6, .int .i64 (-4), .int .i64 0, .int .i64 0, .int .i64 0, .int .i64 0, .int .i64 0, .int .i64 0, .slice q9 0 d9, .bool false], .agg #[.int .i64 7, .int .i64 3, .int .i64 0, .int .i64 2], .bool true]) ∧ Own eRp w' (w.heap.size + 3) 52 q9 d9 []) ∧ Below w.heap.size w w' :=
  vstep_c _ 2 [(7, 3, 0, 2), (7, 0, 0, 2)] w (rd_ins h 2 rfl rfl) 2 rfl (by decide) 0 6 (-4) 0 0 0 0 0 0 (by decide) none 0 0 [] (rd_nil _) rfl (by decide) (by decide) false 3 6 (-4) 0 0 0 0 0 0 [] false 7 3 0 2 true 0 (by kernel_rfl) rfl
theorem f2_1 (w : World) (b : Nat) (h : w.heap[b]? = some (.cells #[.int .i64 7, .int .i64 3, .int .i64 0, .int .i64 2, .int .i64 7, .int .i64 0, .int .i64 0, .int .i64 2] 38 (0, 0))) : Calls Try.prog 19 #[.slice (some ⟨b, 0, none⟩) 2 2, .agg #[.int .i64 1, .int .i64 6, .int .i64 (-4), .int .i64 0, .int .i64 0, .int .i64 0, .int .i64 0, .int .i64 0, .int .i64 0, .slice none 0 0, .bool false]] w fun e w' => (∃ (q9 : Option Addr) (d9 : Nat), e = .returned (.tuple #[.agg #[.int .i64 2, .int .i64 6, .int .i64 (-4), .int .i64 0, .int .i64 0, .int .i64 0, .int .i64 0, .int .i64 0, .int .i64 0, .slice q9 0 d9, .bool false], .agg #[.int .i64 7, .int .i64 0, .int .i64 0, .int .i64 2], .bool true]) ∧ Own eRp w' (w.heap.size + 3) 52 q9 d9 []) ∧ Below w.heap.size w w' :=
  vstep_c _ 2 [(7, 3, 0, 2), (7, 0, 0, 2)] w (rd_ins h 2 rfl rfl) 2 rfl (by decide) 1 6 (-4) 0 0 0 0 0 0 (by decide) none 0 0 [] (rd_nil _) rfl (by decide) (by decide) false 2 6 (-4) 0 0 0 0 0 0 [] false 7 0 0 2 true 0 (by kernel_rfl) rfl
theorem g3_0 (w : World) (b : Nat) (h : w.heap[b]? = some (.cells #[.int .i64 8, .int .i64 0, .int .i64 1, .int .i64 2, .int .i64 2, .int .i64 0, .int .i64 0, .int .i64 0, .int .i64 0, .int .i64 0, .int .i64 0, .int .i64 0] 38 (0, 0))) (q : Option Addr) (d : Nat) (hR : Rd eRp w q d []) : Calls Try.prog 19 #[.slice (some ⟨b, 0, none⟩) 3 3, .agg #[.int .i64 0, .int .i64 5, .int .i64 0, .int .i64 0, .int .i64 0, .int .i64 0, .int .i64 0, .int .i64 0, .int .i64 0, .slice q 0 d, .bool false]] w fun e w' => (∃ (q9 : Option Addr) (d9 : Nat), e = .returned (.tuple #[.agg #[.int .i64 1, .int .i64 5, .int .i64 0, .int .i64 0, .int .i64 0, .int .i64 0, .int .i64 0, .int .i64 0, .int .i64 0, .slice q9 1 d9, .bool false], .agg #[.int .i64 8, .int .i64 0, .int .i64 1, .int .i64 2], .bool true]) ∧ Own eRp w' (w.heap.size + 3) 52 q9 d9 [(1, 1, 1)]) ∧ Below w.heap.size w w' :=
  vstep_c _ 3 [(8, 0, 1, 2), (2, 0, 0, 0), (0, 0, 0, 0)] w (rd_ins h 3 rfl rfl) 3 rfl (by decide) 0 5 0 0 0 0 0 0 0 (by decide) q d 0 [] hR rfl (by decide) (by decide) false 1 5 0 0 0 0 0 0 0 [(1, 1, 1)] false 8 0 1 2 true 1 (by kernel_rfl) rfl
theorem g3_1 (w : World) (b : Nat) (h : w.heap[b]? = some (.cells #[.int .i64 8, .int .i64 0, .int .i64 1, .int .i64 2, .int .i64 2, .int .i64 0, .int .i64 0, .int .i64 0, .int .i64 0, .int .i64 0, .int .i64 0, .int .i64 0] 38 (0, 0))) (q : Option Addr) (d : Nat) (hR : Rd eRp w q d [(1, 1, 1)]) : Calls Try.prog 19 #[.slice (some ⟨b, 0, none⟩) 3 3, .agg #[.int .i64 1, .int .i64 5, .int .i64 0, .int .i64 0, .int .i64 0, .int .i64 0, .int .i64 0, .int .i64 0, .int .i64 0, .slice q 1 d, .bool false]] w fun e w' => (∃ (q9 : Option Addr) (d9 : Nat), e = .returned (.tuple #[.agg #[.int .i64 1, .int .i64 10, .int .i64 0, .int .i64 0, .int .i64 0, .int .i64 0, .int .i64 0, .int .i64 0, .int .i64 0, .slice q9 1 d9, .bool false], .agg #[.int .i64 2, .int .i64 0, .int .i64 0, .int .i64 0], .bool true]) ∧ Own eRp w' (w.heap.size + 3) 52 q9 d9 [(1, 1, 0)]) ∧ Below w.heap.size w w' :=
  vstep_c _ 3 [(8, 0, 1, 2), (2, 0, 0, 0), (0, 0, 0, 0)] w (rd_ins h 3 rfl rfl) 3 rfl (by decide) 1 5 0 0 0 0 0 0 0 (by decide) q d 1 [(1, 1, 1)] hR rfl (by decide) (by intro r hr; simp at hr; subst hr; simp) false 1 10 0 0 0 0 0 0 0 [(1, 1, 0)] false 2 0 0 0 true 1 (by kernel_rfl) rfl
theorem g3_2 (w : World) (b : Nat) (h : w.heap[b]? = some (.cells #[.int .i64 8, .int .i64 0, .int .i64 1, .int .i64 2, .int .i64 2, .int .i64 0, .int .i64 0, .int .i64 0, .int .i64 0, .int .i64 0, .int .i64 0, .int .i64 0] 38 (0, 0))) (q : Option Addr) (d : Nat) (hR : Rd eRp w q d [(1, 1, 0)]) : Calls Try.prog 19 #[.slice (some ⟨b, 0, none⟩) 3 3, .agg #[.int .i64 1, .int .i64 10, .int .i64 0, .int .i64 0, .int .i64 0, .int .i64 0, .int .i64 0, .int .i64 0, .int .i64 0, .slice q 1 d, .bool false]] w fun e w' => (∃ (q9 : Option Addr) (d9 : Nat), e = .returned (.tuple #[.agg #[.int .i64 2, .int .i64 20, .int .i64 0, .int .i64 0, .int .i64 0, .int .i64 0, .int .i64 0, .int .i64 0, .int .i64 0, .slice q9 0 d9, .bool false], .agg #[.int .i64 2, .int .i64 0, .int .i64 0, .int .i64 0], .bool true]) ∧ Own eRp w' (w.heap.size + 3) 52 q9 d9 []) ∧ Below w.heap.size w w' :=
  vstep_c _ 3 [(8, 0, 1, 2), (2, 0, 0, 0), (0, 0, 0, 0)] w (rd_ins h 3 rfl rfl) 3 rfl (by decide) 1 10 0 0 0 0 0 0 0 (by decide) q d 1 [(1, 1, 0)] hR rfl (by decide) (by intro r hr; simp at hr; subst hr; simp) false 2 20 0 0 0 0 0 0 0 [] false 2 0 0 0 true 0 (by kernel_rfl) rfl
theorem g3_3 (w : World) (b : Nat) (h : w.heap[b]? = some (.cells #[.int .i64 8, .int .i64 0, .int .i64 1, .int .i64 2, .int .i64 2, .int .i64 0, .int .i64 0, .int .i64 0, .int .i64 0, .int .i64 0, .int .i64 0, .int .i64 0] 38 (0, 0))) (q : Option Addr) (d : Nat) (hR : Rd eRp w q d []) : Calls Try.prog 19 #[.slice (some ⟨b, 0, none⟩) 3 3, .agg #[.int .i64 2, .int .i64 20, .int .i64 0, .int .i64 0, .int .i64 0, .int .i64 0, .int .i64 0, .int .i64 0, .int .i64 0, .slice q 0 d, .bool false]] w fun e w' => (∃ (q9 : Option Addr) (d9 : Nat), e = .returned (.tuple #[.agg #[.int .i64 2, .int .i64 20, .int .i64 0, .int .i64 0, .int .i64 0, .int .i64 0, .int .i64 0, .int .i64 0, .int .i64 0, .slice q9 0 d9, .bool true], .agg #[.int .i64 0, .int .i64 0, .int .i64 0, .int .i64 0], .bool true]) ∧ Own eRp w' (w.heap.size + 3) 52 q9 d9 []) ∧ Below w.heap.size w w' :=
  vstep_c _ 3 [(8, 0, 1, 2), (2, 0, 0, 0), (0, 0, 0, 0)] w (rd_ins h 3 rfl rfl) 3 rfl (by decide) 2 20 0 0 0 0 0 0 0 (by decide) q d 0 [] hR rfl (by decide) (by decide) false 2 20 0 0 0 0 0 0 0 [] true 0 0 0 0 true 0 (by kernel_rfl) rfl

theorem row_one (pc a0 a1 a2 a3 a4 a5 a6 a7 : Int) (q : Option Addr) (k d : Nat) (ov : Bool) : (#[Value.int .i64 pc, .int .i64 a0, .int .i64 a1, .int .i64 a2, .int .i64 a3, .int .i64 a4, .int .i64 a5, .int .i64 a6, .int .i64 a7, .slice q k d, .bool ov] : Array Value).all (·.oneCell') = true := mcell_one pc [a0, a1, a2, a3, a4, a5, a6, a7] q k d ov

/-- the machine of the second loop -/
def C3 (wr : World) (gc : Nat) (z : Int) (q : Option Addr) (d : Nat) : Prop := (z = 0 ∧ wr.heap[gc]? = some (.cells #[.int .i64 0, .int .i64 5, .int .i64 0, .int .i64 0, .int .i64 0, .int .i64 0, .int .i64 0, .int .i64 0, .int .i64 0, .slice q 0 d, .bool false] 27 (0, 0)) ∧ Own eRp wr 0 52 q d []) ∨ (z = 1 ∧ wr.heap[gc]? = some (.cells #[.int .i64 1, .int .i64 5, .int .i64 0, .int .i64 0, .int .i64 0, .int .i64 0, .int .i64 0, .int .i64 0, .int .i64 0, .slice q 1 d, .bool false] 27 (0, 0)) ∧ Own eRp wr 0 52 q d [(1, 1, 1)]) ∨ (z = 2 ∧ wr.heap[gc]? = some (.cells #[.int .i64 1, .int .i64 10, .int .i64 0, .int .i64 0, .int .i64 0, .int .i64 0, .int .i64 0, .int .i64 0, .int .i64 0, .slice q 1 d, .bool false] 27 (0, 0)) ∧ Own eRp wr 0 52 q d [(1, 1, 0)]) ∨ (z = 3 ∧ wr.heap[gc]? = some (.cells #[.int .i64 2, .int .i64 20, .int .i64 0, .int .i64 0, .int .i64 0, .int .i64 0, .int .i64 0, .int .i64 0, .int .i64 0, .slice q 0 d, .bool false] 27 (0, 0)) ∧ Own eRp wr 0 52 q d []) ∨ (z = 4 ∧ wr.heap[gc]? = some (.cells #[.int .i64 2, .int .i64 20, .int .i64 0, .int .i64 0, .int .i64 0, .int .i64 0, .int .i64 0, .int .i64 0, .int .i64 0, .slice q 0 d, .bool true] 27 (0, 0)) ∧ Own eRp wr 0 52 q d [])
set_option maxRecDepth 100000 in
set_option maxHeartbeats 8000000 in
theorem vforms_walk (w : World) : Calls Try.prog 7 #[] w fun e w' => e = .returned (.bool true) ∧ Below w.heap.size w w' := by
  go_enter Try.func7, Try.ntmps7
  go_wp2_with (first
    | (go_at_call 9; refine (begun_any _).mono ?_; rintro e w1 ⟨rfl, b1⟩)
    | (go_at_call 15; refine (vnew_any _ _).mono ?_; rintro e w2 ⟨rfl, b2⟩))
  have B2 := b1.trans (b2.mono b1.size)
  have R1 : ((((w2.alloc (.cells #[.int .i64 0, .int .i64 6, .int .i64 (-4), .int .i64 0, .int .i64 0, .int .i64 0, .int .i64 0, .int .i64 0, .int .i64 0, .slice none 0 0, .bool false] 27)).alloc (.cells #[.int .i64 1, .int .i64 2, .int .i64 0, .int .i64 (-9), .int .i64 2, .int .i64 0, .int .i64 1, .int .i64 0, .int .i64 3, .int .i64 0, .int .i64 1, .int .i64 0, .int .i64 4, .int .i64 0, .int .i64 1, .int .i64 0, .int .i64 5, .int .i64 0, .int .i64 0, .int .i64 3, .int .i64 5, .int .i64 1, .int .i64 0, .int .i64 (-1), .int .i64 6, .int .i64 0, .int .i64 0, .int .i64 2, .int .i64 11, .int .i64 0, .int .i64 0, .int .i64 0] 38)).alloc (.cells #[.int .i64 2, .int .i64 0, .int .i64 0, .int .i64 0, .int .i64 0, .int .i64 1, .int .i64 0, .int .i64 0] 3)).alloc (.cells #[.int .i64 (-9), .int .i64 2, .int .i64 10, .int .i64 (-24), .int .i64 48, .int .i64 (-2), .int .i64 (-2), .int .i64 6] 2)).heap[w2.heap.size]? = some (.cells #[.int .i64 0, .int .i64 6, .int .i64 (-4), .int .i64 0, .int .i64 0, .int .i64 0, .int .i64 0, .int .i64 0, .int .i64 0, .slice none 0 0, .bool false] 27 (0, 0)) := up1 (up1 (up1 (heap_at rfl)))
  have R2 : ((((w2.alloc (.cells #[.int .i64 0, .int .i64 6, .int .i64 (-4), .int .i64 0, .int .i64 0, .int .i64 0, .int .i64 0, .int .i64 0, .int .i64 0, .slice none 0 0, .bool false] 27)).alloc (.cells #[.int .i64 1, .int .i64 2, .int .i64 0, .int .i64 (-9), .int .i64 2, .int .i64 0, .int .i64 1, .int .i64 0, .int .i64 3, .int .i64 0, .int .i64 1, .int .i64 0, .int .i64 4, .int .i64 0, .int .i64 1, .int .i64 0, .int .i64 5, .int .i64 0, .int .i64 0, .int .i64 3, .int .i64 5, .int .i64 1, .int .i64 0, .int .i64 (-1), .int .i64 6, .int .i64 0, .int .i64 0, .int .i64 2, .int .i64 11, .int .i64 0, .int .i64 0, .int .i64 0] 38)).alloc (.cells #[.int .i64 2, .int .i64 0, .int .i64 0, .int .i64 0, .int .i64 0, .int .i64 1, .int .i64 0, .int .i64 0] 3)).alloc (.cells #[.int .i64 (-9), .int .i64 2, .int .i64 10, .int .i64 (-24), .int .i64 48, .int .i64 (-2), .int .i64 (-2), .int .i64 6] 2)).heap[w2.heap.size + 1]? = some (.cells #[.int .i64 1, .int .i64 2, .int .i64 0, .int .i64 (-9), .int .i64 2, .int .i64 0, .int .i64 1, .int .i64 0, .int .i64 3, .int .i64 0, .int .i64 1, .int .i64 0, .int .i64 4, .int .i64 0, .int .i64 1, .int .i64 0, .int .i64 5, .int .i64 0, .int .i64 0, .int .i64 3, .int .i64 5, .int .i64 1, .int .i64 0, .int .i64 (-1), .int .i64 6, .int .i64 0, .int .i64 0, .int .i64 2, .int .i64 11, .int .i64 0, .int .i64 0, .int .i64 0] 38 (0, 0)) := up1 (up1 (heap_at (by simp)))
  have R3 : ((((w2.alloc (.cells #[.int .i64 0, .int .i64 6, .int .i64 (-4), .int .i64 0, .int .i64 0, .int .i64 0, .int .i64 0, .int .i64 0, .int .i64 0, .slice none 0 0, .bool false] 27)).alloc (.cells #[.int .i64 1, .int .i64 2, .int .i64 0, .int .i64 (-9), .int .i64 2, .int .i64 0, .int .i64 1, .int .i64 0, .int .i64 3, .int .i64 0, .int .i64 1, .int .i64 0, .int .i64 4, .int .i64 0, .int .i64 1, .int .i64 0, .int .i64 5, .int .i64 0, .int .i64 0, .int .i64 3, .int .i64 5, .int .i64 1, .int .i64 0, .int .i64 (-1), .int .i64 6, .int .i64 0, .int .i64 0, .int .i64 2, .int .i64 11, .int .i64 0, .int .i64 0, .int .i64 0] 38)).alloc (.cells #[.int .i64 2, .int .i64 0, .int .i64 0, .int .i64 0, .int .i64 0, .int .i64 1, .int .i64 0, .int .i64 0] 3)).alloc (.cells #[.int .i64 (-9), .int .i64 2, .int .i64 10, .int .i64 (-24), .int .i64 48, .int .i64 (-2), .int .i64 (-2), .int .i64 6] 2)).heap[w2.heap.size + 1 + 1]? = some (.cells #[.int .i64 2, .int .i64 0, .int .i64 0, .int .i64 0, .int .i64 0, .int .i64 1, .int .i64 0, .int .i64 0] 3 (0, 0)) := up1 (heap_at (by simp))
  have R4 : ((((w2.alloc (.cells #[.int .i64 0, .int .i64 6, .int .i64 (-4), .int .i64 0, .int .i64 0, .int .i64 0, .int .i64 0, .int .i64 0, .int .i64 0, .slice none 0 0, .bool false] 27)).alloc (.cells #[.int .i64 1, .int .i64 2, .int .i64 0, .int .i64 (-9), .int .i64 2, .int .i64 0, .int .i64 1, .int .i64 0, .int .i64 3, .int .i64 0, .int .i64 1, .int .i64 0, .int .i64 4, .int .i64 0, .int .i64 1, .int .i64 0, .int .i64 5, .int .i64 0, .int .i64 0, .int .i64 3, .int .i64 5, .int .i64 1, .int .i64 0, .int .i64 (-1), .int .i64 6, .int .i64 0, .int .i64 0, .int .i64 2, .int .i64 11, .int .i64 0, .int .i64 0, .int .i64 0] 38)).alloc (.cells #[.int .i64 2, .int .i64 0, .int .i64 0, .int .i64 0, .int .i64 0, .int .i64 1, .int .i64 0, .int .i64 0] 3)).alloc (.cells #[.int .i64 (-9), .int .i64 2, .int .i64 10, .int .i64 (-24), .int .i64 48, .int .i64 (-2), .int .i64 (-2), .int .i64 6] 2)).heap[w2.heap.size + 1 + 1 + 1]? = some (.cells #[.int .i64 (-9), .int .i64 2, .int .i64 10, .int .i64 (-24), .int .i64 48, .int .i64 (-2), .int .i64 (-2), .int .i64 6] 2 (0, 0)) := heap_at (by simp)
  have B0 : Below w.heap.size w ((((w2.alloc (.cells #[.int .i64 0, .int .i64 6, .int .i64 (-4), .int .i64 0, .int .i64 0, .int .i64 0, .int .i64 0, .int .i64 0, .int .i64 0, .slice none 0 0, .bool false] 27)).alloc (.cells #[.int .i64 1, .int .i64 2, .int .i64 0, .int .i64 (-9), .int .i64 2, .int .i64 0, .int .i64 1, .int .i64 0, .int .i64 3, .int .i64 0, .int .i64 1, .int .i64 0, .int .i64 4, .int .i64 0, .int .i64 1, .int .i64 0, .int .i64 5, .int .i64 0, .int .i64 0, .int .i64 3, .int .i64 5, .int .i64 1, .int .i64 0, .int .i64 (-1), .int .i64 6, .int .i64 0, .int .i64 0, .int .i64 2, .int .i64 11, .int .i64 0, .int .i64 0, .int .i64 0] 38)).alloc (.cells #[.int .i64 2, .int .i64 0, .int .i64 0, .int .i64 0, .int .i64 0, .int .i64 1, .int .i64 0, .int .i64 0] 3)).alloc (.cells #[.int .i64 (-9), .int .i64 2, .int .i64 10, .int .i64 (-24), .int .i64 48, .int .i64 (-2), .int .i64 (-2), .int .i64 6] 2)) := B2.trans (((by repeat (first | exact Below.refl _ _ | refine Below.alloc ?_ (by simp <;> omega) _ | refine Below.setCell ?_ (by simp <;> omega) _)) : Below w2.heap.size w2 _).mono B2.size)
  clear b1 b2
  generalize ((((w2.alloc (.cells #[.int .i64 0, .int .i64 6, .int .i64 (-4), .int .i64 0, .int .i64 0, .int .i64 0, .int .i64 0, .int .i64 0, .int .i64 0, .slice none 0 0, .bool false] 27)).alloc (.cells #[.int .i64 1, .int .i64 2, .int .i64 0, .int .i64 (-9), .int .i64 2, .int .i64 0, .int .i64 1, .int .i64 0, .int .i64 3, .int .i64 0, .int .i64 1, .int .i64 0, .int .i64 4, .int .i64 0, .int .i64 1, .int .i64 0, .int .i64 5, .int .i64 0, .int .i64 0, .int .i64 3, .int .i64 5, .int .i64 1, .int .i64 0, .int .i64 (-1), .int .i64 6, .int .i64 0, .int .i64 0, .int .i64 2, .int .i64 11, .int .i64 0, .int .i64 0, .int .i64 0] 38)).alloc (.cells #[.int .i64 2, .int .i64 0, .int .i64 0, .int .i64 0, .int .i64 0, .int .i64 1, .int .i64 0, .int .i64 0] 3)).alloc (.cells #[.int .i64 (-9), .int .i64 2, .int .i64 10, .int .i64 (-24), .int .i64 48, .int .i64 (-2), .int .i64 (-2), .int .i64 6] 2)) = W0 at R1 R2 R3 R4 B0 ⊢
  have hg : w.heap.size ≤ w2.heap.size := B2.size
  clear B2
  generalize w2.heap.size = g at R1 R2 R3 R4 hg ⊢
  go_loopw [5] (fun t wr => ∃ z : Int, 0 ≤ z ∧ z ≤ 8 ∧ t = .int .i64 z ∧ Below W0.heap.size W0 wr) (fun t _ => 8 - (intOf t).toNat)
  case atStart => exact ⟨0, by decide, by decide, rfl, Below.refl _ _⟩
  case round =>
    obtain ⟨z, z0, z8, rfl, hb⟩ := hrel
    have r1 := keepc hb R1
    have r2 := keepc hb R2
    have r3 := keepc hb R3
    have r4 := keepc hb R4
    have B1 := B0.trans (hb.mono B0.size)
    clear R1 R2 R3 R4
    rcases (by omega : z = 0 ∨ z = 1 ∨ z = 2 ∨ z = 3 ∨ z = 4 ∨ z = 5 ∨ z = 6 ∨ z = 7 ∨ z = 8) with rfl | rfl | rfl | rfl | rfl | rfl | rfl | rfl | rfl
    · clear z0 z8
      go_wp2_with (first
        | (refine wpList_load_row rfl 27 (.tmp 1) rfl g rfl 27 #[.int .i64 0, .int .i64 6, .int .i64 (-4), .int .i64 0, .int .i64 0, .int .i64 0, .int .i64 0, .int .i64 0, .int .i64 0, .slice none 0 0, .bool false] (0, 0) _ r1 Try.underlying27 rfl info38 ?_)
        | (go_at_call 19; (with_reducible (refine (f1_0 _ _ ?h1).mono ?_)); (case h1 => exact up1 r2); rintro e w9 ⟨⟨q9, d9, rfl, o9⟩, b9⟩
           have k2 := keepc b9 (up1 r2)
           have k3 := keepc b9 (up1 r3)
           have k4 := keepc b9 (up1 r4)
           have l2 := lt_of_block k2
           have l3 := lt_of_block k3
           have l4 := lt_of_block k4
           have l0 : g < w9.heap.size := by omega
           have n0 : ¬ g = w9.heap.size := by omega
           have n1 : ¬ g + 1 = w9.heap.size := by omega
           have n2 : ¬ g + 1 + 1 = w9.heap.size := by omega
           have n3 : ¬ g + 1 + 1 + 1 = w9.heap.size := by omega
           have y0 : w9.cell? ⟨g + 1, 0, none⟩ = some (.int .i64 1) := by rw [cell_of_row _ _ _ _ _ _ k2]; rfl
           have y1 : w9.cell? ⟨g + 1, 1, none⟩ = some (.int .i64 2) := by rw [cell_of_row _ _ _ _ _ _ k2]; rfl
           have y2 : w9.cell? ⟨g + 1, 2, none⟩ = some (.int .i64 0) := by rw [cell_of_row _ _ _ _ _ _ k2]; rfl
           have y3 : w9.cell? ⟨g + 1, 3, none⟩ = some (.int .i64 (-9)) := by rw [cell_of_row _ _ _ _ _ _ k2]; rfl
           have y4 : w9.cell? ⟨g + 1 + 1, 0, none⟩ = some (.int .i64 2) := by rw [cell_of_row _ _ _ _ _ _ k3]; rfl
           have y5 : w9.cell? ⟨g + 1 + 1 + 1, 0, none⟩ = some (.int .i64 (-9)) := by rw [cell_of_row _ _ _ _ _ _ k4]; rfl
           have HB9 : Hid (Below W0.heap.size W0 w9) := (hb.alloc hb.size _).trans (b9.mono (by have := hb.size; simp; omega))
           clear k2 k3 k4 o9 b9))
      go_quiet (fail)
      go_wp2
      go_roundw
      case rel => exact ⟨1, by decide, by decide, rfl, bel_draws ((HB9.out.alloc HB9.out.size _).alloc (by have := HB9.out.size; simp; omega) _) _⟩
      case measure => simp [intOf]
    · clear z0 z8
      go_wp2_with (first
        | (refine wpList_load_row rfl 27 (.tmp 1) rfl g rfl 27 #[.int .i64 0, .int .i64 6, .int .i64 (-4), .int .i64 0, .int .i64 0, .int .i64 0, .int .i64 0, .int .i64 0, .int .i64 0, .slice none 0 0, .bool false] (0, 0) _ r1 Try.underlying27 rfl info38 ?_)
        | (go_at_call 19; (with_reducible (refine (f1_1 _ _ ?h1).mono ?_)); (case h1 => exact up1 r2); rintro e w9 ⟨⟨q9, d9, rfl, o9⟩, b9⟩
           have k2 := keepc b9 (up1 r2)
           have k3 := keepc b9 (up1 r3)
           have k4 := keepc b9 (up1 r4)
           have l2 := lt_of_block k2
           have l3 := lt_of_block k3
           have l4 := lt_of_block k4
           have l0 : g < w9.heap.size := by omega
           have n0 : ¬ g = w9.heap.size := by omega
           have n1 : ¬ g + 1 = w9.heap.size := by omega
           have n2 : ¬ g + 1 + 1 = w9.heap.size := by omega
           have n3 : ¬ g + 1 + 1 + 1 = w9.heap.size := by omega
           have y0 : w9.cell? ⟨g + 1, 4, none⟩ = some (.int .i64 2) := by rw [cell_of_row _ _ _ _ _ _ k2]; rfl
           have y1 : w9.cell? ⟨g + 1, 5, none⟩ = some (.int .i64 0) := by rw [cell_of_row _ _ _ _ _ _ k2]; rfl
           have y2 : w9.cell? ⟨g + 1, 6, none⟩ = some (.int .i64 1) := by rw [cell_of_row _ _ _ _ _ _ k2]; rfl
           have y3 : w9.cell? ⟨g + 1, 7, none⟩ = some (.int .i64 0) := by rw [cell_of_row _ _ _ _ _ _ k2]; rfl
           have y4 : w9.cell? ⟨g + 1 + 1, 1, none⟩ = some (.int .i64 0) := by rw [cell_of_row _ _ _ _ _ _ k3]; rfl
           have y5 : w9.cell? ⟨g + 1 + 1 + 1, 1, none⟩ = some (.int .i64 2) := by rw [cell_of_row _ _ _ _ _ _ k4]; rfl
           have HB9 : Hid (Below W0.heap.size W0 w9) := (hb.alloc hb.size _).trans (b9.mono (by have := hb.size; simp; omega))
           clear k2 k3 k4 o9 b9))
      go_quiet (fail)
      go_wp2
      go_roundw
      case rel => exact ⟨2, by decide, by decide, rfl, bel_draws ((HB9.out.alloc HB9.out.size _).alloc (by have := HB9.out.size; simp; omega) _) _⟩
      case measure => simp [intOf]
    · clear z0 z8
      go_wp2_with (first
        | (refine wpList_load_row rfl 27 (.tmp 1) rfl g rfl 27 #[.int .i64 0, .int .i64 6, .int .i64 (-4), .int .i64 0, .int .i64 0, .int .i64 0, .int .i64 0, .int .i64 0, .int .i64 0, .slice none 0 0, .bool false] (0, 0) _ r1 Try.underlying27 rfl info38 ?_)
        | (go_at_call 19; (with_reducible (refine (f1_2 _ _ ?h1).mono ?_)); (case h1 => exact up1 r2); rintro e w9 ⟨⟨q9, d9, rfl, o9⟩, b9⟩
           have k2 := keepc b9 (up1 r2)
           have k3 := keepc b9 (up1 r3)
           have k4 := keepc b9 (up1 r4)
           have l2 := lt_of_block k2
           have l3 := lt_of_block k3
           have l4 := lt_of_block k4
           have l0 : g < w9.heap.size := by omega
           have n0 : ¬ g = w9.heap.size := by omega
           have n1 : ¬ g + 1 = w9.heap.size := by omega
           have n2 : ¬ g + 1 + 1 = w9.heap.size := by omega
           have n3 : ¬ g + 1 + 1 + 1 = w9.heap.size := by omega
           have y0 : w9.cell? ⟨g + 1, 8, none⟩ = some (.int .i64 3) := by rw [cell_of_row _ _ _ _ _ _ k2]; rfl
           have y1 : w9.cell? ⟨g + 1, 9, none⟩ = some (.int .i64 0) := by rw [cell_of_row _ _ _ _ _ _ k2]; rfl
           have y2 : w9.cell? ⟨g + 1, 10, none⟩ = some (.int .i64 1) := by rw [cell_of_row _ _ _ _ _ _ k2]; rfl
           have y3 : w9.cell? ⟨g + 1, 11, none⟩ = some (.int .i64 0) := by rw [cell_of_row _ _ _ _ _ _ k2]; rfl
           have y4 : w9.cell? ⟨g + 1 + 1, 2, none⟩ = some (.int .i64 0) := by rw [cell_of_row _ _ _ _ _ _ k3]; rfl
           have y5 : w9.cell? ⟨g + 1 + 1 + 1, 2, none⟩ = some (.int .i64 10) := by rw [cell_of_row _ _ _ _ _ _ k4]; rfl
           have HB9 : Hid (Below W0.heap.size W0 w9) := (hb.alloc hb.size _).trans (b9.mono (by have := hb.size; simp; omega))
           clear k2 k3 k4 o9 b9))
      go_quiet (fail)
      go_wp2
      go_roundw
      case rel => exact ⟨3, by decide, by decide, rfl, bel_draws ((HB9.out.alloc HB9.out.size _).alloc (by have := HB9.out.size; simp; omega) _) _⟩
      case measure => simp [intOf]
    · clear z0 z8
      go_wp2_with (first
        | (refine wpList_load_row rfl 27 (.tmp 1) rfl g rfl 27 #[.int .i64 0, .int .i64 6, .int .i64 (-4), .int .i64 0, .int .i64 0, .int .i64 0, .int .i64 0, .int .i64 0, .int .i64 0, .slice none 0 0, .bool false] (0, 0) _ r1 Try.underlying27 rfl info38 ?_)
        | (go_at_call 19; (with_reducible (refine (f1_3 _ _ ?h1).mono ?_)); (case h1 => exact up1 r2); rintro e w9 ⟨⟨q9, d9, rfl, o9⟩, b9⟩
           have k2 := keepc b9 (up1 r2)
           have k3 := keepc b9 (up1 r3)
           have k4 := keepc b9 (up1 r4)
           have l2 := lt_of_block k2
           have l3 := lt_of_block k3
           have l4 := lt_of_block k4
           have l0 : g < w9.heap.size := by omega
           have n0 : ¬ g = w9.heap.size := by omega
           have n1 : ¬ g + 1 = w9.heap.size := by omega
           have n2 : ¬ g + 1 + 1 = w9.heap.size := by omega
           have n3 : ¬ g + 1 + 1 + 1 = w9.heap.size := by omega
           have y0 : w9.cell? ⟨g + 1, 12, none⟩ = some (.int .i64 4) := by rw [cell_of_row _ _ _ _ _ _ k2]; rfl
           have y1 : w9.cell? ⟨g + 1, 13, none⟩ = some (.int .i64 0) := by rw [cell_of_row _ _ _ _ _ _ k2]; rfl
           have y2 : w9.cell? ⟨g + 1, 14, none⟩ = some (.int .i64 1) := by rw [cell_of_row _ _ _ _ _ _ k2]; rfl
           have y3 : w9.cell? ⟨g + 1, 15, none⟩ = some (.int .i64 0) := by rw [cell_of_row _ _ _ _ _ _ k2]; rfl
           have y4 : w9.cell? ⟨g + 1 + 1, 3, none⟩ = some (.int .i64 0) := by rw [cell_of_row _ _ _ _ _ _ k3]; rfl
           have y5 : w9.cell? ⟨g + 1 + 1 + 1, 3, none⟩ = some (.int .i64 (-24)) := by rw [cell_of_row _ _ _ _ _ _ k4]; rfl
           have HB9 : Hid (Below W0.heap.size W0 w9) := (hb.alloc hb.size _).trans (b9.mono (by have := hb.size; simp; omega))
           clear k2 k3 k4 o9 b9))
      go_quiet (fail)
      go_wp2
      go_roundw
      case rel => exact ⟨4, by decide, by decide, rfl, bel_draws ((HB9.out.alloc HB9.out.size _).alloc (by have := HB9.out.size; simp; omega) _) _⟩
      case measure => simp [intOf]
    · clear z0 z8
      go_wp2_with (first
        | (refine wpList_load_row rfl 27 (.tmp 1) rfl g rfl 27 #[.int .i64 0, .int .i64 6, .int .i64 (-4), .int .i64 0, .int .i64 0, .int .i64 0, .int .i64 0, .int .i64 0, .int .i64 0, .slice none 0 0, .bool false] (0, 0) _ r1 Try.underlying27 rfl info38 ?_)
        | (go_at_call 19; (with_reducible (refine (f1_4 _ _ ?h1).mono ?_)); (case h1 => exact up1 r2); rintro e w9 ⟨⟨q9, d9, rfl, o9⟩, b9⟩
           have k2 := keepc b9 (up1 r2)
           have k3 := keepc b9 (up1 r3)
           have k4 := keepc b9 (up1 r4)
           have l2 := lt_of_block k2
           have l3 := lt_of_block k3
           have l4 := lt_of_block k4
           have l0 : g < w9.heap.size := by omega
           have n0 : ¬ g = w9.heap.size := by omega
           have n1 : ¬ g + 1 = w9.heap.size := by omega
           have n2 : ¬ g + 1 + 1 = w9.heap.size := by omega
           have n3 : ¬ g + 1 + 1 + 1 = w9.heap.size := by omega
           have y0 : w9.cell? ⟨g + 1, 16, none⟩ = some (.int .i64 5) := by rw [cell_of_row _ _ _ _ _ _ k2]; rfl
           have y1 : w9.cell? ⟨g + 1, 17, none⟩ = some (.int .i64 0) := by rw [cell_of_row _ _ _ _ _ _ k2]; rfl
           have y2 : w9.cell? ⟨g + 1, 18, none⟩ = some (.int .i64 0) := by rw [cell_of_row _ _ _ _ _ _ k2]; rfl
           have y3 : w9.cell? ⟨g + 1, 19, none⟩ = some (.int .i64 3) := by rw [cell_of_row _ _ _ _ _ _ k2]; rfl
           have y4 : w9.cell? ⟨g + 1 + 1, 4, none⟩ = some (.int .i64 0) := by rw [cell_of_row _ _ _ _ _ _ k3]; rfl
           have y5 : w9.cell? ⟨g + 1 + 1 + 1, 4, none⟩ = some (.int .i64 48) := by rw [cell_of_row _ _ _ _ _ _ k4]; rfl
           have HB9 : Hid (Below W0.heap.size W0 w9) := (hb.alloc hb.size _).trans (b9.mono (by have := hb.size; simp; omega))
           clear k2 k3 k4 o9 b9))
      go_quiet (fail)
      go_wp2
      go_roundw
      case rel => exact ⟨5, by decide, by decide, rfl, bel_draws ((HB9.out.alloc HB9.out.size _).alloc (by have := HB9.out.size; simp; omega) _) _⟩
      case measure => simp [intOf]
    · clear z0 z8
      go_wp2_with (first
        | (refine wpList_load_row rfl 27 (.tmp 1) rfl g rfl 27 #[.int .i64 0, .int .i64 6, .int .i64 (-4), .int .i64 0, .int .i64 0, .int .i64 0, .int .i64 0, .int .i64 0, .int .i64 0, .slice none 0 0, .bool false] (0, 0) _ r1 Try.underlying27 rfl info38 ?_)
        | (go_at_call 19; (with_reducible (refine (f1_5 _ _ ?h1).mono ?_)); (case h1 => exact up1 r2); rintro e w9 ⟨⟨q9, d9, rfl, o9⟩, b9⟩
           have k2 := keepc b9 (up1 r2)
           have k3 := keepc b9 (up1 r3)
           have k4 := keepc b9 (up1 r4)
           have l2 := lt_of_block k2
           have l3 := lt_of_block k3
           have l4 := lt_of_block k4
           have l0 : g < w9.heap.size := by omega
           have n0 : ¬ g = w9.heap.size := by omega
           have n1 : ¬ g + 1 = w9.heap.size := by omega
           have n2 : ¬ g + 1 + 1 = w9.heap.size := by omega
           have n3 : ¬ g + 1 + 1 + 1 = w9.heap.size := by omega
           have y0 : w9.cell? ⟨g + 1, 20, none⟩ = some (.int .i64 5) := by rw [cell_of_row _ _ _ _ _ _ k2]; rfl
           have y1 : w9.cell? ⟨g + 1, 21, none⟩ = some (.int .i64 1) := by rw [cell_of_row _ _ _ _ _ _ k2]; rfl
           have y2 : w9.cell? ⟨g + 1, 22, none⟩ = some (.int .i64 0) := by rw [cell_of_row _ _ _ _ _ _ k2]; rfl
           have y3 : w9.cell? ⟨g + 1, 23, none⟩ = some (.int .i64 (-1)) := by rw [cell_of_row _ _ _ _ _ _ k2]; rfl
           have y4 : w9.cell? ⟨g + 1 + 1, 5, none⟩ = some (.int .i64 1) := by rw [cell_of_row _ _ _ _ _ _ k3]; rfl
           have y5 : w9.cell? ⟨g + 1 + 1 + 1, 5, none⟩ = some (.int .i64 (-2)) := by rw [cell_of_row _ _ _ _ _ _ k4]; rfl
           have HB9 : Hid (Below W0.heap.size W0 w9) := (hb.alloc hb.size _).trans (b9.mono (by have := hb.size; simp; omega))
           clear k2 k3 k4 o9 b9))
      go_quiet (fail)
      go_wp2
      go_roundw
      case rel => exact ⟨6, by decide, by decide, rfl, bel_draws ((HB9.out.alloc HB9.out.size _).alloc (by have := HB9.out.size; simp; omega) _) _⟩
      case measure => simp [intOf]
    · clear z0 z8
      go_wp2_with (first
        | (refine wpList_load_row rfl 27 (.tmp 1) rfl g rfl 27 #[.int .i64 0, .int .i64 6, .int .i64 (-4), .int .i64 0, .int .i64 0, .int .i64 0, .int .i64 0, .int .i64 0, .int .i64 0, .slice none 0 0, .bool false] (0, 0) _ r1 Try.underlying27 rfl info38 ?_)
        | (go_at_call 19; (with_reducible (refine (f1_6 _ _ ?h1).mono ?_)); (case h1 => exact up1 r2); rintro e w9 ⟨⟨q9, d9, rfl, o9⟩, b9⟩
           have k2 := keepc b9 (up1 r2)
           have k3 := keepc b9 (up1 r3)
           have k4 := keepc b9 (up1 r4)
           have l2 := lt_of_block k2
           have l3 := lt_of_block k3
           have l4 := lt_of_block k4
           have l0 : g < w9.heap.size := by omega
           have n0 : ¬ g = w9.heap.size := by omega
           have n1 : ¬ g + 1 = w9.heap.size := by omega
           have n2 : ¬ g + 1 + 1 = w9.heap.size := by omega
           have n3 : ¬ g + 1 + 1 + 1 = w9.heap.size := by omega
           have y0 : w9.cell? ⟨g + 1, 24, none⟩ = some (.int .i64 6) := by rw [cell_of_row _ _ _ _ _ _ k2]; rfl
           have y1 : w9.cell? ⟨g + 1, 25, none⟩ = some (.int .i64 0) := by rw [cell_of_row _ _ _ _ _ _ k2]; rfl
           have y2 : w9.cell? ⟨g + 1, 26, none⟩ = some (.int .i64 0) := by rw [cell_of_row _ _ _ _ _ _ k2]; rfl
           have y3 : w9.cell? ⟨g + 1, 27, none⟩ = some (.int .i64 2) := by rw [cell_of_row _ _ _ _ _ _ k2]; rfl
           have y4 : w9.cell? ⟨g + 1 + 1, 6, none⟩ = some (.int .i64 0) := by rw [cell_of_row _ _ _ _ _ _ k3]; rfl
           have y5 : w9.cell? ⟨g + 1 + 1 + 1, 6, none⟩ = some (.int .i64 (-2)) := by rw [cell_of_row _ _ _ _ _ _ k4]; rfl
           have HB9 : Hid (Below W0.heap.size W0 w9) := (hb.alloc hb.size _).trans (b9.mono (by have := hb.size; simp; omega))
           clear k2 k3 k4 o9 b9))
      go_quiet (fail)
      go_wp2
      go_roundw
      case rel => exact ⟨7, by decide, by decide, rfl, bel_draws ((HB9.out.alloc HB9.out.size _).alloc (by have := HB9.out.size; simp; omega) _) _⟩
      case measure => simp [intOf]
    · clear z0 z8
      go_wp2_with (first
        | (refine wpList_load_row rfl 27 (.tmp 1) rfl g rfl 27 #[.int .i64 0, .int .i64 6, .int .i64 (-4), .int .i64 0, .int .i64 0, .int .i64 0, .int .i64 0, .int .i64 0, .int .i64 0, .slice none 0 0, .bool false] (0, 0) _ r1 Try.underlying27 rfl info38 ?_)
        | (go_at_call 19; (with_reducible (refine (f1_7 _ _ ?h1).mono ?_)); (case h1 => exact up1 r2); rintro e w9 ⟨⟨q9, d9, rfl, o9⟩, b9⟩
           have k2 := keepc b9 (up1 r2)
           have k3 := keepc b9 (up1 r3)
           have k4 := keepc b9 (up1 r4)
           have l2 := lt_of_block k2
           have l3 := lt_of_block k3
           have l4 := lt_of_block k4
           have l0 : g < w9.heap.size := by omega
           have n0 : ¬ g = w9.heap.size := by omega
           have n1 : ¬ g + 1 = w9.heap.size := by omega
           have n2 : ¬ g + 1 + 1 = w9.heap.size := by omega
           have n3 : ¬ g + 1 + 1 + 1 = w9.heap.size := by omega
           have y0 : w9.cell? ⟨g + 1, 28, none⟩ = some (.int .i64 11) := by rw [cell_of_row _ _ _ _ _ _ k2]; rfl
           have y1 : w9.cell? ⟨g + 1, 29, none⟩ = some (.int .i64 0) := by rw [cell_of_row _ _ _ _ _ _ k2]; rfl
           have y2 : w9.cell? ⟨g + 1, 30, none⟩ = some (.int .i64 0) := by rw [cell_of_row _ _ _ _ _ _ k2]; rfl
           have y3 : w9.cell? ⟨g + 1, 31, none⟩ = some (.int .i64 0) := by rw [cell_of_row _ _ _ _ _ _ k2]; rfl
           have y4 : w9.cell? ⟨g + 1 + 1, 7, none⟩ = some (.int .i64 0) := by rw [cell_of_row _ _ _ _ _ _ k3]; rfl
           have y5 : w9.cell? ⟨g + 1 + 1 + 1, 7, none⟩ = some (.int .i64 6) := by rw [cell_of_row _ _ _ _ _ _ k4]; rfl
           have HB9 : Hid (Below W0.heap.size W0 w9) := (hb.alloc hb.size _).trans (b9.mono (by have := hb.size; simp; omega))
           clear k2 k3 k4 o9 b9))
      go_quiet (fail)
      go_wp2
      go_roundw
      case rel => exact ⟨8, by decide, by decide, rfl, bel_draws ((HB9.out.alloc HB9.out.size _).alloc (by have := HB9.out.size; simp; omega) _) _⟩
      case measure => simp [intOf]
    · clear z0 z8 hb
      have l1 := lt_of_block r1
      go_wp2_with (first
        | (refine wpList_load_row rfl 27 (.tmp 1) rfl g rfl 27 #[.int .i64 0, .int .i64 6, .int .i64 (-4), .int .i64 0, .int .i64 0, .int .i64 0, .int .i64 0, .int .i64 0, .int .i64 0, .slice none 0 0, .bool false] (0, 0) _ (up1 r1) Try.underlying27 rfl info38 ?_)
        | (go_at_call 19; (with_reducible (refine (f2_0 _ _ ?h1).mono ?_)); (case h1 => exact heap_at rfl); rintro e w3 ⟨⟨qa, da, rfl, oa⟩, b3⟩
           have r13 := keepc b3 (up1 r1)
           have p23 := keepc b3 (heap_at (w := wr) rfl)
           have c13 : w3.cell? ⟨g, 0, none⟩ = some (.int .i64 0) := by rw [cell_of_row _ _ _ _ _ _ r13]; rfl
           have fr3 := fun j => frozen_of_row _ _ j _ _ r13
           have l3 := lt_of_block r13
           have l4 := lt_of_block p23
           have B3 := (B1.alloc B1.size _).trans (b3.mono (by have := B1.size; simp; omega))
           have n3 : ¬ g = w3.heap.size := by omega
           have n4 : ¬ g = w3.heap.size + 1 := by omega
           have zS : (w3.setCell ⟨g, 0, none⟩ (.int .i64 1)).heap.size = w3.heap.size := by simp [World.setCell]
           have rS : (w3.setCell ⟨g, 0, none⟩ (.int .i64 1)).heap[g]? = some (.cells #[.int .i64 1, .int .i64 6, .int .i64 (-4), .int .i64 0, .int .i64 0, .int .i64 0, .int .i64 0, .int .i64 0, .int .i64 0, .slice none 0 0, .bool false] 27 (0, 0)) := (heap_setCell_same _ _ _ _ _ _ r13).trans rfl
           have pS : (w3.setCell ⟨g, 0, none⟩ (.int .i64 1)).heap[wr.heap.size]? = some (.cells #[.int .i64 7, .int .i64 3, .int .i64 0, .int .i64 2, .int .i64 7, .int .i64 0, .int .i64 0, .int .i64 2] 38 (0, 0)) := at_other p23 (by omega)
           have BS : Below w.heap.size w (w3.setCell ⟨g, 0, none⟩ (.int .i64 1)) := B3.setCell hg _)
        | (refine wpList_load_row rfl 27 (.tmp 1) rfl g rfl 27 #[.int .i64 1, .int .i64 6, .int .i64 (-4), .int .i64 0, .int .i64 0, .int .i64 0, .int .i64 0, .int .i64 0, .int .i64 0, .slice none 0 0, .bool false] (0, 0) _ (up1 (up1 rS)) Try.underlying27 rfl info38 ?_)
        | (go_at_call 19; (with_reducible (refine (f2_1 _ _ ?h1).mono ?_)); (case h1 => exact up1 (up1 pS)); rintro e w4 ⟨⟨qb, db, rfl, ob⟩, b4⟩
           have ra4 := keepc b4 (up1 (heap_at (w := w3.setCell ⟨g, 0, none⟩ (.int .i64 1)) zS))
           have la4 := lt_of_block ra4
           have B4 := ((BS.alloc BS.size _).alloc (by have := BS.size; simp; omega) _).trans (b4.mono (by have := BS.size; simp; omega)))
        | (go_at_call 15; refine (vnew_any _ _).mono ?_; rintro e w5 ⟨rfl, b5⟩))
      have z5 := b5.size
      simp at z5
      have RA : ((w5.alloc (.cells #[.int .i64 0, .int .i64 5, .int .i64 0, .int .i64 0, .int .i64 0, .int .i64 0, .int .i64 0, .int .i64 0, .int .i64 0, .slice none 0 0, .bool false] 27)).alloc (.cells #[.int .i64 1, .int .i64 1, .int .i64 2, .int .i64 2] 3)).heap[w3.heap.size]? = some (.cells #[.int .i64 3, .int .i64 6, .int .i64 (-4), .int .i64 0, .int .i64 0, .int .i64 0, .int .i64 0, .int .i64 0, .int .i64 0, .slice qa 0 da, .bool false] 27 (0, 0)) := up1 (up1 (keepc b5 (up1 (up1 (up1 ra4)))))
      have RB : ((w5.alloc (.cells #[.int .i64 0, .int .i64 5, .int .i64 0, .int .i64 0, .int .i64 0, .int .i64 0, .int .i64 0, .int .i64 0, .int .i64 0, .slice none 0 0, .bool false] 27)).alloc (.cells #[.int .i64 1, .int .i64 1, .int .i64 2, .int .i64 2] 3)).heap[w4.heap.size]? = some (.cells #[.int .i64 2, .int .i64 6, .int .i64 (-4), .int .i64 0, .int .i64 0, .int .i64 0, .int .i64 0, .int .i64 0, .int .i64 0, .slice qb 0 db, .bool false] 27 (0, 0)) := up1 (up1 (keepc b5 (up1 (up1 (heap_at rfl)))))
      have RP : ((w5.alloc (.cells #[.int .i64 0, .int .i64 5, .int .i64 0, .int .i64 0, .int .i64 0, .int .i64 0, .int .i64 0, .int .i64 0, .int .i64 0, .slice none 0 0, .bool false] 27)).alloc (.cells #[.int .i64 1, .int .i64 1, .int .i64 2, .int .i64 2] 3)).heap[w4.heap.size + 1 + 1]? = some (.cells #[.int .i64 8, .int .i64 0, .int .i64 1, .int .i64 2, .int .i64 2, .int .i64 0, .int .i64 0, .int .i64 0, .int .i64 0, .int .i64 0, .int .i64 0, .int .i64 0] 38 (0, 0)) := up1 (up1 (keepc b5 (heap_at (by simp))))
      have RQ : ((w5.alloc (.cells #[.int .i64 0, .int .i64 5, .int .i64 0, .int .i64 0, .int .i64 0, .int .i64 0, .int .i64 0, .int .i64 0, .int .i64 0, .slice none 0 0, .bool false] 27)).alloc (.cells #[.int .i64 1, .int .i64 1, .int .i64 2, .int .i64 2] 3)).heap[w5.heap.size + 1]? = some (.cells #[.int .i64 1, .int .i64 1, .int .i64 2, .int .i64 2] 3 (0, 0)) := heap_at (by simp)
      have RC : C3 ((w5.alloc (.cells #[.int .i64 0, .int .i64 5, .int .i64 0, .int .i64 0, .int .i64 0, .int .i64 0, .int .i64 0, .int .i64 0, .int .i64 0, .slice none 0 0, .bool false] 27)).alloc (.cells #[.int .i64 1, .int .i64 1, .int .i64 2, .int .i64 2] 3)) w5.heap.size 0 none 0 := .inl ⟨rfl, up1 (heap_at rfl), own_nil _ _ _⟩
      have B5 : Below w.heap.size w ((w5.alloc (.cells #[.int .i64 0, .int .i64 5, .int .i64 0, .int .i64 0, .int .i64 0, .int .i64 0, .int .i64 0, .int .i64 0, .int .i64 0, .slice none 0 0, .bool false] 27)).alloc (.cells #[.int .i64 1, .int .i64 1, .int .i64 2, .int .i64 2] 3)) := by
        have y3 := B3.size
        have y4 := B4.size
        exact ((((((B4.alloc (by omega) _).alloc (by simp; omega) _).alloc (by simp; omega) _).trans (b5.mono (by simp; omega))).alloc (by omega) _).alloc (by simp; omega) _)
      have ha : w3.heap.size < w5.heap.size := by omega
      have hbg : w4.heap.size < w5.heap.size := by omega
      have hgc : w.heap.size ≤ w5.heap.size := by have := B4.size; omega
      clear r1 r2 r3 r4 B1 zS rS pS BS r13 p23 c13 fr3 l3 l4 B3 n3 n4 ra4 la4 B4 b5 b4 b3 oa ob z5 hg l1
      generalize ((w5.alloc (.cells #[.int .i64 0, .int .i64 5, .int .i64 0, .int .i64 0, .int .i64 0, .int .i64 0, .int .i64 0, .int .i64 0, .int .i64 0, .slice none 0 0, .bool false] 27)).alloc (.cells #[.int .i64 1, .int .i64 1, .int .i64 2, .int .i64 2] 3)) = W5 at RA RB RP RQ RC B5 ⊢
      generalize w3.heap.size = ga at RA ha ⊢
      generalize w4.heap.size = gb at RB RP hbg ⊢
      generalize w5.heap.size = gc at RQ RC ha hbg hgc ⊢
      go_loopw [20] (fun t wr => ∃ (z : Int) (q : Option Addr) (d : Nat), t = .int .i64 z ∧ C3 wr gc z q d ∧ wr.heap[ga]? = some (.cells #[.int .i64 3, .int .i64 6, .int .i64 (-4), .int .i64 0, .int .i64 0, .int .i64 0, .int .i64 0, .int .i64 0, .int .i64 0, .slice qa 0 da, .bool false] 27 (0, 0)) ∧ wr.heap[gb]? = some (.cells #[.int .i64 2, .int .i64 6, .int .i64 (-4), .int .i64 0, .int .i64 0, .int .i64 0, .int .i64 0, .int .i64 0, .int .i64 0, .slice qb 0 db, .bool false] 27 (0, 0)) ∧ wr.heap[gb + 1 + 1]? = some (.cells #[.int .i64 8, .int .i64 0, .int .i64 1, .int .i64 2, .int .i64 2, .int .i64 0, .int .i64 0, .int .i64 0, .int .i64 0, .int .i64 0, .int .i64 0, .int .i64 0] 38 (0, 0)) ∧ wr.heap[gc + 1]? = some (.cells #[.int .i64 1, .int .i64 1, .int .i64 2, .int .i64 2] 3 (0, 0)) ∧ Below w.heap.size w wr) (fun t _ => 4 - (intOf t).toNat)
      case atStart => exact ⟨0, none, 0, rfl, RC, RA, RB, RP, RQ, B5⟩
      case round =>
        obtain ⟨z, q, d, rfl, hC, rA, rB, rP, rQ, hB⟩ := hrel
        clear RA RB RP RQ RC B5
        rcases hC with ⟨rfl, rC, oC⟩ | ⟨rfl, rC, oC⟩ | ⟨rfl, rC, oC⟩ | ⟨rfl, rC, oC⟩ | ⟨rfl, rC, oC⟩
        · have lC := lt_of_block rC
          go_wp2_with (first
            | (refine wpList_load_row rfl 27 (.tmp 18) rfl gc rfl 27 #[.int .i64 0, .int .i64 5, .int .i64 0, .int .i64 0, .int .i64 0, .int .i64 0, .int .i64 0, .int .i64 0, .int .i64 0, .slice q 0 d, .bool false] (0, 0) _ rC Try.underlying27 rfl info38 ?_)
            | (go_at_call 19; (with_reducible (refine (g3_0 _ _ ?h1 q d ?h2).mono ?_)); (case h1 => exact rP); (case h2 => exact own_rd oC); rintro e w6 ⟨⟨q6, d6, rfl, o6⟩, b6⟩
               have k5 := keepc b6 rQ
               have l5 := lt_of_block k5
               have l6 : gc < w6.heap.size := by omega
               have n6 : ¬ gc = w6.heap.size := by omega
               have n7 : ¬ gc + 1 = w6.heap.size := by omega
               have y5 : w6.cell? ⟨gc + 1, 0, none⟩ = some (.int .i64 1) := by rw [cell_of_row _ _ _ _ _ _ k5]; rfl))
          go_quiet (fail)
          have bq : Below w6.heap.size w6 (((w6.alloc (.cells #[.int .i64 1, .int .i64 5, .int .i64 0, .int .i64 0, .int .i64 0, .int .i64 0, .int .i64 0, .int .i64 0, .int .i64 0, .slice q6 1 d6, .bool false] 27)).alloc (.cells #[.int .i64 8, .int .i64 0, .int .i64 1, .int .i64 2] 38)).drewN nq) := bel_draws (by repeat (first | exact Below.refl _ _ | refine Below.alloc ?_ (by simp <;> omega) _ | refine Below.setCell ?_ (by simp <;> omega) _)) _
          have kX : (((w6.alloc (.cells #[.int .i64 1, .int .i64 5, .int .i64 0, .int .i64 0, .int .i64 0, .int .i64 0, .int .i64 0, .int .i64 0, .int .i64 0, .slice q6 1 d6, .bool false] 27)).alloc (.cells #[.int .i64 8, .int .i64 0, .int .i64 1, .int .i64 2] 38)).drewN nq).heap[w6.heap.size]? = some (.cells #[.int .i64 1, .int .i64 5, .int .i64 0, .int .i64 0, .int .i64 0, .int .i64 0, .int .i64 0, .int .i64 0, .int .i64 0, .slice q6 1 d6, .bool false] 27 (0, 0)) := up1 (heap_at rfl)
          have kC := keepc bq (keepc b6 rC)
          have kA := keepc bq (keepc b6 rA)
          have kB := keepc bq (keepc b6 rB)
          have kP := keepc bq (keepc b6 rP)
          have kQ := keepc bq (keepc b6 rQ)
          have kO := own_base (own_below o6 bq) (Nat.zero_le _)
          have HB := hB.trans ((b6.mono hB.size).trans (bq.mono (Nat.le_trans hB.size b6.size)))
          have lz : gc < w6.heap.size := Nat.lt_of_lt_of_le lC b6.size
          clear bq b6 o6 k5 l5 l6 n6 n7 y5 rC rA rB rP rQ oC hB lC
          generalize (((w6.alloc (.cells #[.int .i64 1, .int .i64 5, .int .i64 0, .int .i64 0, .int .i64 0, .int .i64 0, .int .i64 0, .int .i64 0, .int .i64 0, .slice q6 1 d6, .bool false] 27)).alloc (.cells #[.int .i64 8, .int .i64 0, .int .i64 1, .int .i64 2] 38)).drewN nq) = wq at *
          go_wp2_with (first
            | (refine wpList_load_row rfl 27 (.tmp 21) rfl w6.heap.size rfl 27 #[.int .i64 1, .int .i64 5, .int .i64 0, .int .i64 0, .int .i64 0, .int .i64 0, .int .i64 0, .int .i64 0, .int .i64 0, .slice q6 1 d6, .bool false] (0, 0) _ kX Try.underlying27 rfl info38 ?_)
            | (refine wpList_store_row rfl 27 (.tmp 18) (.tmp 146) rfl gc #[.int .i64 1, .int .i64 5, .int .i64 0, .int .i64 0, .int .i64 0, .int .i64 0, .int .i64 0, .int .i64 0, .int .i64 0, .slice q6 1 d6, .bool false] rfl rfl 27 _ kC info38 rfl (row_one _ _ _ _ _ _ _ _ _ _ _ _ _) ?_))
          go_roundw
          case rel => exact ⟨1, q6, d6, rfl, .inr (.inl ⟨rfl, setRow_heap _ _ _ _ _ _ kC, own_other kO kC (by decide) (fun b hb => setRow_other _ _ _ _ hb)⟩), (setRow_other _ _ _ _ (by omega)).trans kA, (setRow_other _ _ _ _ (by omega)).trans kB, (setRow_other _ _ _ _ (fun e => by rw [e, kC] at kP; simp at kP)).trans kP, (setRow_other _ _ _ _ (by omega)).trans kQ, below_setRow HB hgc _⟩
          case measure => simp [intOf]
        · have lC := lt_of_block rC
          go_wp2_with (first
            | (refine wpList_load_row rfl 27 (.tmp 18) rfl gc rfl 27 #[.int .i64 1, .int .i64 5, .int .i64 0, .int .i64 0, .int .i64 0, .int .i64 0, .int .i64 0, .int .i64 0, .int .i64 0, .slice q 1 d, .bool false] (0, 0) _ rC Try.underlying27 rfl info38 ?_)
            | (go_at_call 19; (with_reducible (refine (g3_1 _ _ ?h1 q d ?h2).mono ?_)); (case h1 => exact rP); (case h2 => exact own_rd oC); rintro e w6 ⟨⟨q6, d6, rfl, o6⟩, b6⟩
               have k5 := keepc b6 rQ
               have l5 := lt_of_block k5
               have l6 : gc < w6.heap.size := by omega
               have n6 : ¬ gc = w6.heap.size := by omega
               have n7 : ¬ gc + 1 = w6.heap.size := by omega
               have y5 : w6.cell? ⟨gc + 1, 1, none⟩ = some (.int .i64 1) := by rw [cell_of_row _ _ _ _ _ _ k5]; rfl))
          go_quiet (fail)
          have bq : Below w6.heap.size w6 (((w6.alloc (.cells #[.int .i64 1, .int .i64 10, .int .i64 0, .int .i64 0, .int .i64 0, .int .i64 0, .int .i64 0, .int .i64 0, .int .i64 0, .slice q6 1 d6, .bool false] 27)).alloc (.cells #[.int .i64 2, .int .i64 0, .int .i64 0, .int .i64 0] 38)).drewN nq) := bel_draws (by repeat (first | exact Below.refl _ _ | refine Below.alloc ?_ (by simp <;> omega) _ | refine Below.setCell ?_ (by simp <;> omega) _)) _
          have kX : (((w6.alloc (.cells #[.int .i64 1, .int .i64 10, .int .i64 0, .int .i64 0, .int .i64 0, .int .i64 0, .int .i64 0, .int .i64 0, .int .i64 0, .slice q6 1 d6, .bool false] 27)).alloc (.cells #[.int .i64 2, .int .i64 0, .int .i64 0, .int .i64 0] 38)).drewN nq).heap[w6.heap.size]? = some (.cells #[.int .i64 1, .int .i64 10, .int .i64 0, .int .i64 0, .int .i64 0, .int .i64 0, .int .i64 0, .int .i64 0, .int .i64 0, .slice q6 1 d6, .bool false] 27 (0, 0)) := up1 (heap_at rfl)
          have kC := keepc bq (keepc b6 rC)
          have kA := keepc bq (keepc b6 rA)
          have kB := keepc bq (keepc b6 rB)
          have kP := keepc bq (keepc b6 rP)
          have kQ := keepc bq (keepc b6 rQ)
          have kO := own_base (own_below o6 bq) (Nat.zero_le _)
          have HB := hB.trans ((b6.mono hB.size).trans (bq.mono (Nat.le_trans hB.size b6.size)))
          have lz : gc < w6.heap.size := Nat.lt_of_lt_of_le lC b6.size
          clear bq b6 o6 k5 l5 l6 n6 n7 y5 rC rA rB rP rQ oC hB lC
          generalize (((w6.alloc (.cells #[.int .i64 1, .int .i64 10, .int .i64 0, .int .i64 0, .int .i64 0, .int .i64 0, .int .i64 0, .int .i64 0, .int .i64 0, .slice q6 1 d6, .bool false] 27)).alloc (.cells #[.int .i64 2, .int .i64 0, .int .i64 0, .int .i64 0] 38)).drewN nq) = wq at *
          go_wp2_with (first
            | (refine wpList_load_row rfl 27 (.tmp 21) rfl w6.heap.size rfl 27 #[.int .i64 1, .int .i64 10, .int .i64 0, .int .i64 0, .int .i64 0, .int .i64 0, .int .i64 0, .int .i64 0, .int .i64 0, .slice q6 1 d6, .bool false] (0, 0) _ kX Try.underlying27 rfl info38 ?_)
            | (refine wpList_store_row rfl 27 (.tmp 18) (.tmp 146) rfl gc #[.int .i64 1, .int .i64 10, .int .i64 0, .int .i64 0, .int .i64 0, .int .i64 0, .int .i64 0, .int .i64 0, .int .i64 0, .slice q6 1 d6, .bool false] rfl rfl 27 _ kC info38 rfl (row_one _ _ _ _ _ _ _ _ _ _ _ _ _) ?_))
          go_roundw
          case rel => exact ⟨2, q6, d6, rfl, .inr (.inr (.inl ⟨rfl, setRow_heap _ _ _ _ _ _ kC, own_other kO kC (by decide) (fun b hb => setRow_other _ _ _ _ hb)⟩)), (setRow_other _ _ _ _ (by omega)).trans kA, (setRow_other _ _ _ _ (by omega)).trans kB, (setRow_other _ _ _ _ (fun e => by rw [e, kC] at kP; simp at kP)).trans kP, (setRow_other _ _ _ _ (by omega)).trans kQ, below_setRow HB hgc _⟩
          case measure => simp [intOf]
        · have lC := lt_of_block rC
          go_wp2_with (first
            | (refine wpList_load_row rfl 27 (.tmp 18) rfl gc rfl 27 #[.int .i64 1, .int .i64 10, .int .i64 0, .int .i64 0, .int .i64 0, .int .i64 0, .int .i64 0, .int .i64 0, .int .i64 0, .slice q 1 d, .bool false] (0, 0) _ rC Try.underlying27 rfl info38 ?_)
            | (go_at_call 19; (with_reducible (refine (g3_2 _ _ ?h1 q d ?h2).mono ?_)); (case h1 => exact rP); (case h2 => exact own_rd oC); rintro e w6 ⟨⟨q6, d6, rfl, o6⟩, b6⟩
               have k5 := keepc b6 rQ
               have l5 := lt_of_block k5
               have l6 : gc < w6.heap.size := by omega
               have n6 : ¬ gc = w6.heap.size := by omega
               have n7 : ¬ gc + 1 = w6.heap.size := by omega
               have y5 : w6.cell? ⟨gc + 1, 2, none⟩ = some (.int .i64 2) := by rw [cell_of_row _ _ _ _ _ _ k5]; rfl))
          go_quiet (fail)
          have bq : Below w6.heap.size w6 (((w6.alloc (.cells #[.int .i64 2, .int .i64 20, .int .i64 0, .int .i64 0, .int .i64 0, .int .i64 0, .int .i64 0, .int .i64 0, .int .i64 0, .slice q6 0 d6, .bool false] 27)).alloc (.cells #[.int .i64 2, .int .i64 0, .int .i64 0, .int .i64 0] 38)).drewN nq) := bel_draws (by repeat (first | exact Below.refl _ _ | refine Below.alloc ?_ (by simp <;> omega) _ | refine Below.setCell ?_ (by simp <;> omega) _)) _
          have kX : (((w6.alloc (.cells #[.int .i64 2, .int .i64 20, .int .i64 0, .int .i64 0, .int .i64 0, .int .i64 0, .int .i64 0, .int .i64 0, .int .i64 0, .slice q6 0 d6, .bool false] 27)).alloc (.cells #[.int .i64 2, .int .i64 0, .int .i64 0, .int .i64 0] 38)).drewN nq).heap[w6.heap.size]? = some (.cells #[.int .i64 2, .int .i64 20, .int .i64 0, .int .i64 0, .int .i64 0, .int .i64 0, .int .i64 0, .int .i64 0, .int .i64 0, .slice q6 0 d6, .bool false] 27 (0, 0)) := up1 (heap_at rfl)
          have kC := keepc bq (keepc b6 rC)
          have kA := keepc bq (keepc b6 rA)
          have kB := keepc bq (keepc b6 rB)
          have kP := keepc bq (keepc b6 rP)
          have kQ := keepc bq (keepc b6 rQ)
          have kO := own_base (own_below o6 bq) (Nat.zero_le _)
          have HB := hB.trans ((b6.mono hB.size).trans (bq.mono (Nat.le_trans hB.size b6.size)))
          have lz : gc < w6.heap.size := Nat.lt_of_lt_of_le lC b6.size
          clear bq b6 o6 k5 l5 l6 n6 n7 y5 rC rA rB rP rQ oC hB lC
          generalize (((w6.alloc (.cells #[.int .i64 2, .int .i64 20, .int .i64 0, .int .i64 0, .int .i64 0, .int .i64 0, .int .i64 0, .int .i64 0, .int .i64 0, .slice q6 0 d6, .bool false] 27)).alloc (.cells #[.int .i64 2, .int .i64 0, .int .i64 0, .int .i64 0] 38)).drewN nq) = wq at *
          go_wp2_with (first
            | (refine wpList_load_row rfl 27 (.tmp 21) rfl w6.heap.size rfl 27 #[.int .i64 2, .int .i64 20, .int .i64 0, .int .i64 0, .int .i64 0, .int .i64 0, .int .i64 0, .int .i64 0, .int .i64 0, .slice q6 0 d6, .bool false] (0, 0) _ kX Try.underlying27 rfl info38 ?_)
            | (refine wpList_store_row rfl 27 (.tmp 18) (.tmp 146) rfl gc #[.int .i64 2, .int .i64 20, .int .i64 0, .int .i64 0, .int .i64 0, .int .i64 0, .int .i64 0, .int .i64 0, .int .i64 0, .slice q6 0 d6, .bool false] rfl rfl 27 _ kC info38 rfl (row_one _ _ _ _ _ _ _ _ _ _ _ _ _) ?_))
          go_roundw
          case rel => exact ⟨3, q6, d6, rfl, .inr (.inr (.inr (.inl ⟨rfl, setRow_heap _ _ _ _ _ _ kC, own_other kO kC (by decide) (fun b hb => setRow_other _ _ _ _ hb)⟩))), (setRow_other _ _ _ _ (by omega)).trans kA, (setRow_other _ _ _ _ (by omega)).trans kB, (setRow_other _ _ _ _ (fun e => by rw [e, kC] at kP; simp at kP)).trans kP, (setRow_other _ _ _ _ (by omega)).trans kQ, below_setRow HB hgc _⟩
          case measure => simp [intOf]
        · have lC := lt_of_block rC
          go_wp2_with (first
            | (refine wpList_load_row rfl 27 (.tmp 18) rfl gc rfl 27 #[.int .i64 2, .int .i64 20, .int .i64 0, .int .i64 0, .int .i64 0, .int .i64 0, .int .i64 0, .int .i64 0, .int .i64 0, .slice q 0 d, .bool false] (0, 0) _ rC Try.underlying27 rfl info38 ?_)
            | (go_at_call 19; (with_reducible (refine (g3_3 _ _ ?h1 q d ?h2).mono ?_)); (case h1 => exact rP); (case h2 => exact own_rd oC); rintro e w6 ⟨⟨q6, d6, rfl, o6⟩, b6⟩
               have k5 := keepc b6 rQ
               have l5 := lt_of_block k5
               have l6 : gc < w6.heap.size := by omega
               have n6 : ¬ gc = w6.heap.size := by omega
               have n7 : ¬ gc + 1 = w6.heap.size := by omega
               have y5 : w6.cell? ⟨gc + 1, 3, none⟩ = some (.int .i64 2) := by rw [cell_of_row _ _ _ _ _ _ k5]; rfl))
          go_quiet (fail)
          have bq : Below w6.heap.size w6 (((w6.alloc (.cells #[.int .i64 2, .int .i64 20, .int .i64 0, .int .i64 0, .int .i64 0, .int .i64 0, .int .i64 0, .int .i64 0, .int .i64 0, .slice q6 0 d6, .bool true] 27)).alloc (.cells #[.int .i64 0, .int .i64 0, .int .i64 0, .int .i64 0] 38)).drewN nq) := bel_draws (by repeat (first | exact Below.refl _ _ | refine Below.alloc ?_ (by simp <;> omega) _ | refine Below.setCell ?_ (by simp <;> omega) _)) _
          have kX : (((w6.alloc (.cells #[.int .i64 2, .int .i64 20, .int .i64 0, .int .i64 0, .int .i64 0, .int .i64 0, .int .i64 0, .int .i64 0, .int .i64 0, .slice q6 0 d6, .bool true] 27)).alloc (.cells #[.int .i64 0, .int .i64 0, .int .i64 0, .int .i64 0] 38)).drewN nq).heap[w6.heap.size]? = some (.cells #[.int .i64 2, .int .i64 20, .int .i64 0, .int .i64 0, .int .i64 0, .int .i64 0, .int .i64 0, .int .i64 0, .int .i64 0, .slice q6 0 d6, .bool true] 27 (0, 0)) := up1 (heap_at rfl)
          have kC := keepc bq (keepc b6 rC)
          have kA := keepc bq (keepc b6 rA)
          have kB := keepc bq (keepc b6 rB)
          have kP := keepc bq (keepc b6 rP)
          have kQ := keepc bq (keepc b6 rQ)
          have kO := own_base (own_below o6 bq) (Nat.zero_le _)
          have HB := hB.trans ((b6.mono hB.size).trans (bq.mono (Nat.le_trans hB.size b6.size)))
          have lz : gc < w6.heap.size := Nat.lt_of_lt_of_le lC b6.size
          clear bq b6 o6 k5 l5 l6 n6 n7 y5 rC rA rB rP rQ oC hB lC
          generalize (((w6.alloc (.cells #[.int .i64 2, .int .i64 20, .int .i64 0, .int .i64 0, .int .i64 0, .int .i64 0, .int .i64 0, .int .i64 0, .int .i64 0, .slice q6 0 d6, .bool true] 27)).alloc (.cells #[.int .i64 0, .int .i64 0, .int .i64 0, .int .i64 0] 38)).drewN nq) = wq at *
          go_wp2_with (first
            | (refine wpList_load_row rfl 27 (.tmp 21) rfl w6.heap.size rfl 27 #[.int .i64 2, .int .i64 20, .int .i64 0, .int .i64 0, .int .i64 0, .int .i64 0, .int .i64 0, .int .i64 0, .int .i64 0, .slice q6 0 d6, .bool true] (0, 0) _ kX Try.underlying27 rfl info38 ?_)
            | (refine wpList_store_row rfl 27 (.tmp 18) (.tmp 146) rfl gc #[.int .i64 2, .int .i64 20, .int .i64 0, .int .i64 0, .int .i64 0, .int .i64 0, .int .i64 0, .int .i64 0, .int .i64 0, .slice q6 0 d6, .bool true] rfl rfl 27 _ kC info38 rfl (row_one _ _ _ _ _ _ _ _ _ _ _ _ _) ?_))
          go_roundw
          case rel => exact ⟨4, q6, d6, rfl, .inr (.inr (.inr (.inr (⟨rfl, setRow_heap _ _ _ _ _ _ kC, own_other kO kC (by decide) (fun b hb => setRow_other _ _ _ _ hb)⟩)))), (setRow_other _ _ _ _ (by omega)).trans kA, (setRow_other _ _ _ _ (by omega)).trans kB, (setRow_other _ _ _ _ (fun e => by rw [e, kC] at kP; simp at kP)).trans kP, (setRow_other _ _ _ _ (by omega)).trans kQ, below_setRow HB hgc _⟩
          case measure => simp [intOf]
        · have lC := lt_of_block rC
          have lA := lt_of_block rA
          have lB := lt_of_block rB
          have y1 : wr.cell? ⟨ga, 0, none⟩ = some (.int .i64 3) := by rw [cell_of_row _ _ _ _ _ _ rA]; rfl
          have y2 : wr.cell? ⟨gb, 0, none⟩ = some (.int .i64 2) := by rw [cell_of_row _ _ _ _ _ _ rB]; rfl
          have y3 : wr.cell? ⟨gc, 10, none⟩ = some (.bool true) := by rw [cell_of_row _ _ _ _ _ _ rC]; rfl
          have y4 : wr.cell? ⟨gc, 1, none⟩ = some (.int .i64 20) := by rw [cell_of_row _ _ _ _ _ _ rC]; rfl
          go_wp2
          go_ret
          exact ⟨rfl, hB⟩
end Go.Proofs.Ytjejabineblnhaa
