/-
  Where a machine is behind an instruction, by the program.
-/
import Derived.Test.YtonholadabebbaaStepl
import Derived.WalkSpells
namespace Go.Proofs.Ytonholadabebbaa
open Go.ChangeShapes Go.WideShapes Go.ChangeAt Go.RowKit
attribute [local go_sem ↓] Go.wp_at_zero Go.wp_at_succ

theorem mcell_V {pc : Int} {mem : List Int} {q : Option Addr} {k d : Nat} {ov : Bool} {j : Nat} {V : Int} (hj : mem[j]? = some V) : (mcell pc mem q k d ov)[1 + j]? = some (.int .i64 V) := by
  obtain ⟨hl, rfl⟩ := List.getElem?_eq_some_iff.1 hj
  exact mcell_m hl

end Go.Proofs.Ytonholadabebbaa
