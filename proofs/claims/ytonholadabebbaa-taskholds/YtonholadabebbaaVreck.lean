/-
  A machine's row of what is repeated, copied; memories behind an instruction, by the program.
-/
import Derived.Test.YtonholadabebbaaStepl
import Derived.WalkSpells
import Derived.Lib.Overlaps
namespace Go.Proofs.Ytonholadabebbaa
open Go.ChangeShapes Go.WideShapes Go.ChangeAt Go.RowKit
attribute [local go_sem ↓] Go.wp_at_zero Go.wp_at_succ

def cI (l : List Int) : Array Value := (l.map (Value.int .i64)).toArray
theorem cI_size (l : List Int) : (cI l).size = l.length := by simp [cI]
theorem cI_set (l : List Int) (k : Nat) (v : Int) : (cI l).setIfInBounds k (.int .i64 v) = cI (l.set k v) := by simp [cI, List.map_set]
theorem cI_get {l : List Int} {k : Nat} (h : k < l.length) : (cI l)[k]? = some (.int .i64 l[k]) := by simp [cI, List.getElem?_eq_getElem h]
theorem cI_one (l : List Int) : (cI l).all (·.oneCell') = true := by
  rw [Array.all_eq_true_iff_forall_mem]
  intro v hv
  simp [cI] at hv
  obtain ⟨x, _, rfl⟩ := hv
  rfl
theorem info24 : (Try.prog.info? 60).map (·.size) = some 8 := by kernel_rfl
theorem at_setI {mem : List Int} {w : World} {b j : Nat} {v : Int} (h : w.heap[b]? = some (.cells (cI mem) 60 (0, 0))) : (w.setCell ⟨b, j, none⟩ (.int .i64 v)).heap[b]? = some (.cells (cI (mem.set j v)) 60 (0, 0)) := by
  rw [heap_setCell_same _ _ _ _ _ _ h, cI_set]
theorem at_other {w : World} {b c j : Nat} {o : Obj} {v : Value} (h : w.heap[c]? = some o) (hne : c ≠ b) : (w.setCell ⟨b, j, none⟩ v).heap[c]? = some o := (heap_setCell_other _ _ _ _ (by simpa using hne)).trans h
theorem cI_getV {mem : List Int} {j : Nat} {V : Int} (hj : mem[j]? = some V) : (cI mem)[j]? = some (.int .i64 V) := by
  obtain ⟨hl, rfl⟩ := List.getElem?_eq_some_iff.1 hj
  exact cI_get hl
theorem cI_cell {mem : List Int} {w : World} {b j : Nat} {V : Int} (h : w.heap[b]? = some (.cells (cI mem) 60 (0, 0))) (hj : mem[j]? = some V) : w.cell? ⟨b, j, none⟩ = some (.int .i64 V) := by
  obtain ⟨hl, rfl⟩ := List.getElem?_eq_some_iff.1 hj
  rw [cell_of_row _ _ _ _ _ _ h]
  exact cI_get hl

end Go.Proofs.Ytonholadabebbaa
