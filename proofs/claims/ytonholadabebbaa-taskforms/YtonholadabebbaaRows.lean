/-
  No cell of these rows narrows 'for every input' (looked for: loops, veiled, ifaces, maps, wideKeys, modest, calm, conditions, laid).
  DERIVED. THE GIVEN ROWS OF THIS SEAT. 3 by the template 'for every input the law returns true; each argument reads behind the call as it read before'; 0 by the template 'total and deterministic' (their statements: YtonholadabebbaaTotals.lean).
  GIVEN WITH THE SEED: the statements are not yours to turn. If you find one false, say at which input.
  Laid BY PROGRAM, IN A SANDBOX (cutbox-rows.mjs): the forced cells as the released guide's own fill.sh prints them over the translation 7447c93c89f91a4e… (all of the seat's roots in one cut). By AI agents, Wed Nov 11 2026. No macro, syntax, notation, axiom, sorry.
-/
import Derived.Test.YtonholadabebbaaChecked
import GoSem.Claim
import GoSem.ClaimJoined
import GoSem.ClaimMapViews
import Derived.JoinedTies
import Derived.KernelRfl
namespace Go.Proofs.Ytonholadabebbaa
/- THE CELL 'sum', in the pinned program and in every row, IS THE sha256 OF THE DUMP (.gsa) THAT YtonholadabebbaaProg.lean LOADS. Nothing in Lean hashes anything: it is a label: what it is worth is what the hold of that sum in a sandbox is worth. -/
noncomputable def Try.pinned : Pinned := { name := "ytonholadabebbaa", sum := "7447c93c89f91a4eaa376fc473b8ae6d653ec3b914f9306b19dd4a827d27e527", checked := Try.checked }
namespace Rows
def none {H : Type} : Left H := { results := [], args := [] }

/-- 'foliotlaw15.TaskAll': WHATEVER THE INPUT: true; the input reads as it did. -/
def taskAllSpec : ChangeSpec := { name := "taskAll", fn := fun _ => fun
  | [d1, d2, d3, d4] => { results := [.lit (.bool true)], args := [d1, d2, d3, d4] }
  | _ => none }
def taskAllRow : OpenClaim := { program := "ytonholadabebbaa", sum := "7447c93c89f91a4eaa376fc473b8ae6d653ec3b914f9306b19dd4a827d27e527", func := "foliot/foliotlaw15.TaskAll", spec := "taskAll", unfollowed := true, recurses := true, plainKeys := false, apart := false }
def TaskAllSaid : Prop := taskAllRow.holds Try.pinned (OpenSpec.ofChange taskAllSpec)

/-- ITS FALSE NEIGHBOUR: 'it returns false'. Refute it at one input. -/
def taskAllWrong : ChangeSpec := { name := "taskAll", fn := fun _ => fun
  | [d1, d2, d3, d4] => { results := [.lit (.bool false)], args := [d1, d2, d3, d4] }
  | _ => none }
def TaskAllWrongFalsely : Prop := taskAllRow.holds Try.pinned (OpenSpec.ofChange taskAllWrong)

/-- 'foliotlaw15.TaskForms': WHATEVER THE INPUT: true; the input reads as it did. -/
def taskFormsSpec : ChangeSpec := { name := "taskForms", fn := fun _ => fun
  | [] => { results := [.lit (.bool true)], args := [] }
  | _ => none }
def taskFormsRow : OpenClaim := { program := "ytonholadabebbaa", sum := "7447c93c89f91a4eaa376fc473b8ae6d653ec3b914f9306b19dd4a827d27e527", func := "foliot/foliotlaw15.TaskForms", spec := "taskForms", unfollowed := true, recurses := true, plainKeys := false, apart := false }
def TaskFormsSaid : Prop := taskFormsRow.holds Try.pinned (OpenSpec.ofChange taskFormsSpec)

/-- ITS FALSE NEIGHBOUR: 'it returns false'. Refute it at one input. -/
def taskFormsWrong : ChangeSpec := { name := "taskForms", fn := fun _ => fun
  | [] => { results := [.lit (.bool false)], args := [] }
  | _ => none }
def TaskFormsWrongFalsely : Prop := taskFormsRow.holds Try.pinned (OpenSpec.ofChange taskFormsWrong)

/-- 'foliotlaw15.TaskHolds': WHATEVER THE INPUT: true; the input reads as it did. -/
def taskHoldsSpec : ChangeSpec := { name := "taskHolds", fn := fun _ => fun
  | [d1, d2] => { results := [.lit (.bool true)], args := [d1, d2] }
  | _ => none }
def taskHoldsRow : OpenClaim := { program := "ytonholadabebbaa", sum := "7447c93c89f91a4eaa376fc473b8ae6d653ec3b914f9306b19dd4a827d27e527", func := "foliot/foliotlaw15.TaskHolds", spec := "taskHolds", unfollowed := true, recurses := true, plainKeys := false, apart := false }
def TaskHoldsSaid : Prop := taskHoldsRow.holds Try.pinned (OpenSpec.ofChange taskHoldsSpec)

/-- ITS FALSE NEIGHBOUR: 'it returns false'. Refute it at one input. -/
def taskHoldsWrong : ChangeSpec := { name := "taskHolds", fn := fun _ => fun
  | [d1, d2] => { results := [.lit (.bool false)], args := [d1, d2] }
  | _ => none }
def TaskHoldsWrongFalsely : Prop := taskHoldsRow.holds Try.pinned (OpenSpec.ofChange taskHoldsWrong)

/- THE SECOND FORM. 'bulk': how many values and letters a reading holds, each counted each time it is reached (what is shared counts as often as it is met; a slice's spare places count too). A statement '..UptoSaid' is the law's where the arguments, and the package variables that the reading takes, are together of bulk at most 1048576: NARROWER than '..Said'. Prove '..Said' where nothing that the law and all that it calls make is longer than what came in: it says more and counts as full. Else prove '..UptoSaid'. A law counts once. -/
mutual
def uptoBulk {H : Type} : DataW H → Nat
  | .lit (.string bytes) => bytes.length + 1
  | .lit _ => 1
  | .nil => 1
  | .ptr d => uptoBulk d + 1
  | .slice elems spare => uptoBulkAll elems + uptoBulkAll spare + 1
  | .agg parts => uptoBulkAll parts + 1
  | .iface _ d => uptoBulk d + 1
  | .map entries => uptoBulkEntries entries + 1
  | .held _ => 1
def uptoBulkAll {H : Type} : List (DataW H) → Nat
  | [] => 0
  | d :: r => uptoBulk d + uptoBulkAll r
def uptoBulkEntries {H : Type} : List (Lit × DataW H) → Nat
  | [] => 0
  | x :: r => uptoBulkEntry x + uptoBulkEntries r
def uptoBulkEntry {H : Type} : Lit × DataW H → Nat
  | (.string bytes, d) => bytes.length + uptoBulk d + 1
  | (_, d) => uptoBulk d + 1
 end
def uptoSmall : (H : Type) → List (DataW H) → Bool := fun _ ds => decide (uptoBulkAll ds ≤ 1048576)
def OpenSpec.upto (s : _root_.Go.ChangeSpec) : _root_.Go.OpenSpec := { _root_.Go.OpenSpec.ofChange s with cond := some uptoSmall }

/-- 'foliotlaw15.TaskAll', WHERE WHAT IT READS IS OF BULK AT MOST 1048576: true; the input reads as it did. -/
def taskAllUptoRow : OpenClaim := { program := "ytonholadabebbaa", sum := "7447c93c89f91a4eaa376fc473b8ae6d653ec3b914f9306b19dd4a827d27e527", func := "foliot/foliotlaw15.TaskAll", spec := "taskAll", unfollowed := true, recurses := true, plainKeys := false, apart := false, narrowed := true }
def TaskAllUptoSaid : Prop := taskAllUptoRow.holds Try.pinned (OpenSpec.upto taskAllSpec)

/-- 'foliotlaw15.TaskForms', WHERE WHAT IT READS IS OF BULK AT MOST 1048576: true; the input reads as it did. -/
def taskFormsUptoRow : OpenClaim := { program := "ytonholadabebbaa", sum := "7447c93c89f91a4eaa376fc473b8ae6d653ec3b914f9306b19dd4a827d27e527", func := "foliot/foliotlaw15.TaskForms", spec := "taskForms", unfollowed := true, recurses := true, plainKeys := false, apart := false, narrowed := true }
def TaskFormsUptoSaid : Prop := taskFormsUptoRow.holds Try.pinned (OpenSpec.upto taskFormsSpec)

/-- 'foliotlaw15.TaskHolds', WHERE WHAT IT READS IS OF BULK AT MOST 1048576: true; the input reads as it did. -/
def taskHoldsUptoRow : OpenClaim := { program := "ytonholadabebbaa", sum := "7447c93c89f91a4eaa376fc473b8ae6d653ec3b914f9306b19dd4a827d27e527", func := "foliot/foliotlaw15.TaskHolds", spec := "taskHolds", unfollowed := true, recurses := true, plainKeys := false, apart := false, narrowed := true }
def TaskHoldsUptoSaid : Prop := taskHoldsUptoRow.holds Try.pinned (OpenSpec.upto taskHoldsSpec)

end Rows
end Go.Proofs.Ytonholadabebbaa
