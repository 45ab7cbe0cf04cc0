/-
  The lowest bit of any row, the empty one too: the program's answer and the document's.
-/
import Derived.Test.YtnhbodloiimagaaBegun
import Derived.WalkKit
import Derived.ProofKit
import Derived.Outline
import Derived.WalkLawsBesides
namespace Go.Proofs.Ytnhbodloiimagaa
open Go.ChangeShapes Go.WideShapes Go.ChangeAt Go.RowKit
noncomputable def fv (r : Nat) : Nat := if r = 0 then 0 else firstv r
def fo (r : Nat) : Bool := decide (r ≠ 0)
theorem first_any (r : Nat) (w : World) (hr : r < 18446744073709551616) :
    Calls Try.prog 8 #[.int .u64 (r : Int)] w fun e w' => e = .returned (.tuple #[.int .i64 (fv r : Int), .bool (fo r)]) ∧ w' = w := by
  by_cases h : r = 0
  · subst h; exact first_no w
  · have e1 : fv r = firstv r := if_neg h
    have e2 : fo r = true := decide_eq_true h
    rw [e1, e2]; exact first_yes r w hr h
theorem rfirst_any (r : Nat) (w : World) (hr : r < 18446744073709551616) :
    Calls Try.prog 9 #[.int .u64 (r : Int)] w fun e w' => e = .returned (.tuple #[.int .i64 (fv r : Int), .bool (fo r)]) ∧ w' = w := by
  by_cases h : r = 0
  · subst h; exact rfirst_no w
  · have e1 : fv r = firstv r := if_neg h
    have e2 : fo r = true := decide_eq_true h
    rw [e1, e2]; exact rfirst_yes r w hr h
end Go.Proofs.Ytnhbodloiimagaa
