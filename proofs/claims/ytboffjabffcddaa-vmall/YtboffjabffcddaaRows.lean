/-
  No cell of these rows narrows 'for every input' (looked for: loops, veiled, ifaces, maps, wideKeys, modest, calm, conditions, laid).
  DERIVED. THE GIVEN ROWS OF THIS SEAT. 6 by the template 'for every input the law returns true; each argument reads behind the call as it read before'; 0 by the template 'total and deterministic' (their statements: YtboffjabffcddaaTotals.lean).
  GIVEN WITH THE SEED: the statements are not yours to turn. If you find one false, say at which input.
  Laid BY PROGRAM, IN A SANDBOX (cutbox-rows.mjs): the forced cells as the released guide's own fill.sh prints them over the translation 94481b793c4a707f… (all of the seat's roots in one cut). By AI agents, Wed Nov 11 2026. No macro, syntax, notation, axiom, sorry.
-/
import Derived.Test.YtboffjabffcddaaChecked
import GoSem.Claim
import GoSem.ClaimJoined
import GoSem.ClaimMapViews
import Derived.JoinedTies
import Derived.KernelRfl
namespace Go.Proofs.Ytboffjabffcddaa
/- THE CELL 'sum', in the pinned program and in every row, IS THE sha256 OF THE DUMP (.gsa) THAT YtboffjabffcddaaProg.lean LOADS. Nothing in Lean hashes anything: it is a label: what it is worth is what the hold of that sum in a sandbox is worth. -/
noncomputable def Try.pinned : Pinned := { name := "ytboffjabffcddaa", sum := "94481b793c4a707f5a02c5512f5804c30764b6daeb2c9ac819861368419e346c", checked := Try.checked }
namespace Rows
def none {H : Type} : Left H := { results := [], args := [] }

/-- 'foliotlaw9.PureAll': WHATEVER THE INPUT: true; the input reads as it did. -/
def pureAllSpec : ChangeSpec := { name := "pureAll", fn := fun _ => fun
  | [d1, d2, d3] => { results := [.lit (.bool true)], args := [d1, d2, d3] }
  | _ => none }
def pureAllRow : OpenClaim := { program := "ytboffjabffcddaa", sum := "94481b793c4a707f5a02c5512f5804c30764b6daeb2c9ac819861368419e346c", func := "foliot/foliotlaw9.PureAll", spec := "pureAll", unfollowed := true, recurses := true, plainKeys := false, apart := false }
def PureAllSaid : Prop := pureAllRow.holds Try.pinned (OpenSpec.ofChange pureAllSpec)

/-- ITS FALSE NEIGHBOUR: 'it returns false'. Refute it at one input. -/
def pureAllWrong : ChangeSpec := { name := "pureAll", fn := fun _ => fun
  | [d1, d2, d3] => { results := [.lit (.bool false)], args := [d1, d2, d3] }
  | _ => none }
def PureAllWrongFalsely : Prop := pureAllRow.holds Try.pinned (OpenSpec.ofChange pureAllWrong)

/-- 'foliotlaw9.PureMarks': WHATEVER THE INPUT: true; the input reads as it did. -/
def pureMarksSpec : ChangeSpec := { name := "pureMarks", fn := fun _ => fun
  | [d1, d2] => { results := [.lit (.bool true)], args := [d1, d2] }
  | _ => none }
def pureMarksRow : OpenClaim := { program := "ytboffjabffcddaa", sum := "94481b793c4a707f5a02c5512f5804c30764b6daeb2c9ac819861368419e346c", func := "foliot/foliotlaw9.PureMarks", spec := "pureMarks", unfollowed := true, recurses := true, plainKeys := false, apart := false }
def PureMarksSaid : Prop := pureMarksRow.holds Try.pinned (OpenSpec.ofChange pureMarksSpec)

/-- ITS FALSE NEIGHBOUR: 'it returns false'. Refute it at one input. -/
def pureMarksWrong : ChangeSpec := { name := "pureMarks", fn := fun _ => fun
  | [d1, d2] => { results := [.lit (.bool false)], args := [d1, d2] }
  | _ => none }
def PureMarksWrongFalsely : Prop := pureMarksRow.holds Try.pinned (OpenSpec.ofChange pureMarksWrong)

/-- 'foliotlaw9.PureForms': WHATEVER THE INPUT: true; the input reads as it did. -/
def pureFormsSpec : ChangeSpec := { name := "pureForms", fn := fun _ => fun
  | [] => { results := [.lit (.bool true)], args := [] }
  | _ => none }
def pureFormsRow : OpenClaim := { program := "ytboffjabffcddaa", sum := "94481b793c4a707f5a02c5512f5804c30764b6daeb2c9ac819861368419e346c", func := "foliot/foliotlaw9.PureForms", spec := "pureForms", unfollowed := true, recurses := true, plainKeys := false, apart := false }
def PureFormsSaid : Prop := pureFormsRow.holds Try.pinned (OpenSpec.ofChange pureFormsSpec)

/-- ITS FALSE NEIGHBOUR: 'it returns false'. Refute it at one input. -/
def pureFormsWrong : ChangeSpec := { name := "pureForms", fn := fun _ => fun
  | [] => { results := [.lit (.bool false)], args := [] }
  | _ => none }
def PureFormsWrongFalsely : Prop := pureFormsRow.holds Try.pinned (OpenSpec.ofChange pureFormsWrong)

/-- 'foliotlaw9.PureAhead': WHATEVER THE INPUT: true; the input reads as it did. -/
def pureAheadSpec : ChangeSpec := { name := "pureAhead", fn := fun _ => fun
  | [d1, d2, d3, d4] => { results := [.lit (.bool true)], args := [d1, d2, d3, d4] }
  | _ => none }
def pureAheadRow : OpenClaim := { program := "ytboffjabffcddaa", sum := "94481b793c4a707f5a02c5512f5804c30764b6daeb2c9ac819861368419e346c", func := "foliot/foliotlaw9.PureAhead", spec := "pureAhead", unfollowed := true, recurses := true, plainKeys := false, apart := false }
def PureAheadSaid : Prop := pureAheadRow.holds Try.pinned (OpenSpec.ofChange pureAheadSpec)

/-- ITS FALSE NEIGHBOUR: 'it returns false'. Refute it at one input. -/
def pureAheadWrong : ChangeSpec := { name := "pureAhead", fn := fun _ => fun
  | [d1, d2, d3, d4] => { results := [.lit (.bool false)], args := [d1, d2, d3, d4] }
  | _ => none }
def PureAheadWrongFalsely : Prop := pureAheadRow.holds Try.pinned (OpenSpec.ofChange pureAheadWrong)

/-- 'foliotlaw9.PureLoops': WHATEVER THE INPUT: true; the input reads as it did. -/
def pureLoopsSpec : ChangeSpec := { name := "pureLoops", fn := fun _ => fun
  | [d1, d2, d3] => { results := [.lit (.bool true)], args := [d1, d2, d3] }
  | _ => none }
def pureLoopsRow : OpenClaim := { program := "ytboffjabffcddaa", sum := "94481b793c4a707f5a02c5512f5804c30764b6daeb2c9ac819861368419e346c", func := "foliot/foliotlaw9.PureLoops", spec := "pureLoops", unfollowed := true, recurses := true, plainKeys := false, apart := false }
def PureLoopsSaid : Prop := pureLoopsRow.holds Try.pinned (OpenSpec.ofChange pureLoopsSpec)

/-- ITS FALSE NEIGHBOUR: 'it returns false'. Refute it at one input. -/
def pureLoopsWrong : ChangeSpec := { name := "pureLoops", fn := fun _ => fun
  | [d1, d2, d3] => { results := [.lit (.bool false)], args := [d1, d2, d3] }
  | _ => none }
def PureLoopsWrongFalsely : Prop := pureLoopsRow.holds Try.pinned (OpenSpec.ofChange pureLoopsWrong)

/-- 'foliotlaw8.VmAll': WHATEVER THE INPUT: true; the input reads as it did. -/
def vmAllSpec : ChangeSpec := { name := "vmAll", fn := fun _ => fun
  | [d1, d2, d3, d4, d5] => { results := [.lit (.bool true)], args := [d1, d2, d3, d4, d5] }
  | _ => none }
def vmAllRow : OpenClaim := { program := "ytboffjabffcddaa", sum := "94481b793c4a707f5a02c5512f5804c30764b6daeb2c9ac819861368419e346c", func := "foliot/foliotlaw8.VmAll", spec := "vmAll", plainKeys := false, apart := false }
def VmAllSaid : Prop := vmAllRow.holds Try.pinned (OpenSpec.ofChange vmAllSpec)

/-- ITS FALSE NEIGHBOUR: 'it returns false'. Refute it at one input. -/
def vmAllWrong : ChangeSpec := { name := "vmAll", fn := fun _ => fun
  | [d1, d2, d3, d4, d5] => { results := [.lit (.bool false)], args := [d1, d2, d3, d4, d5] }
  | _ => none }
def VmAllWrongFalsely : Prop := vmAllRow.holds Try.pinned (OpenSpec.ofChange vmAllWrong)

/- THE SECOND FORM. 'bulk': how many values and letters a reading holds, each counted each time it is reached (what is shared counts as often as it is met; a slice's spare places count too). A statement '..UptoSaid' is the law's where the arguments, and the package variables that the reading takes, are together of bulk at most 1048576: NARROWER than '..Said'. Prove '..Said' where nothing that the law and all that it calls make is longer than what came in: it says more and counts as full. Else prove '..UptoSaid'. A law counts once. -/
mutual
def uptoBulk {H : Type} : DataW H → Nat
  | .lit (.string bytes) => bytes.length + 1
  | .lit _ => 1
  | .nil => 1
  | .ptr d => uptoBulk d + 1
  | .slice elems spare => uptoBulkAll elems + uptoBulkAll spare + 1
  | .agg parts => uptoBulkAll parts + 1
  | .iface _ d => uptoBulk d + 1
  | .map entries => uptoBulkEntries entries + 1
  | .held _ => 1
def uptoBulkAll {H : Type} : List (DataW H) → Nat
  | [] => 0
  | d :: r => uptoBulk d + uptoBulkAll r
def uptoBulkEntries {H : Type} : List (Lit × DataW H) → Nat
  | [] => 0
  | x :: r => uptoBulkEntry x + uptoBulkEntries r
def uptoBulkEntry {H : Type} : Lit × DataW H → Nat
  | (.string bytes, d) => bytes.length + uptoBulk d + 1
  | (_, d) => uptoBulk d + 1
 end
def uptoSmall : (H : Type) → List (DataW H) → Bool := fun _ ds => decide (uptoBulkAll ds ≤ 1048576)
def OpenSpec.upto (s : _root_.Go.ChangeSpec) : _root_.Go.OpenSpec := { _root_.Go.OpenSpec.ofChange s with cond := some uptoSmall }

/-- 'foliotlaw9.PureAll', WHERE WHAT IT READS IS OF BULK AT MOST 1048576: true; the input reads as it did. -/
def pureAllUptoRow : OpenClaim := { program := "ytboffjabffcddaa", sum := "94481b793c4a707f5a02c5512f5804c30764b6daeb2c9ac819861368419e346c", func := "foliot/foliotlaw9.PureAll", spec := "pureAll", unfollowed := true, recurses := true, plainKeys := false, apart := false, narrowed := true }
def PureAllUptoSaid : Prop := pureAllUptoRow.holds Try.pinned (OpenSpec.upto pureAllSpec)

/-- 'foliotlaw9.PureMarks', WHERE WHAT IT READS IS OF BULK AT MOST 1048576: true; the input reads as it did. -/
def pureMarksUptoRow : OpenClaim := { program := "ytboffjabffcddaa", sum := "94481b793c4a707f5a02c5512f5804c30764b6daeb2c9ac819861368419e346c", func := "foliot/foliotlaw9.PureMarks", spec := "pureMarks", unfollowed := true, recurses := true, plainKeys := false, apart := false, narrowed := true }
def PureMarksUptoSaid : Prop := pureMarksUptoRow.holds Try.pinned (OpenSpec.upto pureMarksSpec)

/-- 'foliotlaw9.PureForms', WHERE WHAT IT READS IS OF BULK AT MOST 1048576: true; the input reads as it did. -/
def pureFormsUptoRow : OpenClaim := { program := "ytboffjabffcddaa", sum := "94481b793c4a707f5a02c5512f5804c30764b6daeb2c9ac819861368419e346c", func := "foliot/foliotlaw9.PureForms", spec := "pureForms", unfollowed := true, recurses := true, plainKeys := false, apart := false, narrowed := true }
def PureFormsUptoSaid : Prop := pureFormsUptoRow.holds Try.pinned (OpenSpec.upto pureFormsSpec)

/-- 'foliotlaw9.PureAhead', WHERE WHAT IT READS IS OF BULK AT MOST 1048576: true; the input reads as it did. -/
def pureAheadUptoRow : OpenClaim := { program := "ytboffjabffcddaa", sum := "94481b793c4a707f5a02c5512f5804c30764b6daeb2c9ac819861368419e346c", func := "foliot/foliotlaw9.PureAhead", spec := "pureAhead", unfollowed := true, recurses := true, plainKeys := false, apart := false, narrowed := true }
def PureAheadUptoSaid : Prop := pureAheadUptoRow.holds Try.pinned (OpenSpec.upto pureAheadSpec)

/-- 'foliotlaw9.PureLoops', WHERE WHAT IT READS IS OF BULK AT MOST 1048576: true; the input reads as it did. -/
def pureLoopsUptoRow : OpenClaim := { program := "ytboffjabffcddaa", sum := "94481b793c4a707f5a02c5512f5804c30764b6daeb2c9ac819861368419e346c", func := "foliot/foliotlaw9.PureLoops", spec := "pureLoops", unfollowed := true, recurses := true, plainKeys := false, apart := false, narrowed := true }
def PureLoopsUptoSaid : Prop := pureLoopsUptoRow.holds Try.pinned (OpenSpec.upto pureLoopsSpec)

/-- 'foliotlaw8.VmAll', WHERE WHAT IT READS IS OF BULK AT MOST 1048576: true; the input reads as it did. -/
def vmAllUptoRow : OpenClaim := { program := "ytboffjabffcddaa", sum := "94481b793c4a707f5a02c5512f5804c30764b6daeb2c9ac819861368419e346c", func := "foliot/foliotlaw8.VmAll", spec := "vmAll", plainKeys := false, apart := false, narrowed := true }
def VmAllUptoSaid : Prop := vmAllUptoRow.holds Try.pinned (OpenSpec.upto vmAllSpec)

end Rows
end Go.Proofs.Ytboffjabffcddaa
