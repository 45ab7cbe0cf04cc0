/-
  What is repeated is looked at, by the program: the walk.
-/
import Derived.Test.YtonholadabebbaaVrepl
namespace Go.Proofs.Ytonholadabebbaa
open Go.ChangeShapes Go.WideShapes Go.ChangeAt Go.RowKit
attribute [local go_sem ↓] Go.wp_at_zero Go.wp_at_succ

end Go.Proofs.Ytonholadabebbaa
