/-
  No cell of these rows narrows 'for every input' (looked for: loops, veiled, ifaces, maps, wideKeys, modest, calm, conditions, laid).
  DERIVED. THE GIVEN ROWS OF THIS SEAT. 4 by the template 'for every input the law returns true; each argument reads behind the call as it read before'; 0 by the template 'total and deterministic' (their statements: YtodboigmmekkpaaTotals.lean).
  GIVEN WITH THE SEED: the statements are not yours to turn. If you find one false, say at which input.
  Laid BY PROGRAM, IN A SANDBOX (cutbox-rows.mjs): the forced cells as the released guide's own fill.sh prints them over the translation 70a95947f7758302… (all of the seat's roots in one cut). By AI agents, Wed Nov 11 2026. No macro, syntax, notation, axiom, sorry.
-/
import Derived.Test.YtodboigmmekkpaaChecked
import GoSem.Claim
import GoSem.ClaimJoined
import GoSem.ClaimMapViews
import Derived.JoinedTies
import Derived.KernelRfl
namespace Go.Proofs.Ytodboigmmekkpaa
/- THE CELL 'sum', in the pinned program and in every row, IS THE sha256 OF THE DUMP (.gsa) THAT YtodboigmmekkpaaProg.lean LOADS. Nothing in Lean hashes anything: it is a label: what it is worth is what the hold of that sum in a sandbox is worth. -/
noncomputable def Try.pinned : Pinned := { name := "ytodboigmmekkpaa", sum := "70a95947f775830289a039221db19745c9ecb48a9b1f354c3ff63d41698d88e6", checked := Try.checked }
namespace Rows
def none {H : Type} : Left H := { results := [], args := [] }

/-- 'foliotlaw13.FlagAll': WHATEVER THE INPUT: true; the input reads as it did. -/
def flagAllSpec : ChangeSpec := { name := "flagAll", fn := fun _ => fun
  | [d1, d2, d3] => { results := [.lit (.bool true)], args := [d1, d2, d3] }
  | _ => none }
def flagAllRow : OpenClaim := { program := "ytodboigmmekkpaa", sum := "70a95947f775830289a039221db19745c9ecb48a9b1f354c3ff63d41698d88e6", func := "foliot/foliotlaw13.FlagAll", spec := "flagAll", unfollowed := true, recurses := true, apart := false }
def FlagAllSaid : Prop := flagAllRow.holds Try.pinned (OpenSpec.ofChange flagAllSpec)

/-- ITS FALSE NEIGHBOUR: 'it returns false'. Refute it at one input. -/
def flagAllWrong : ChangeSpec := { name := "flagAll", fn := fun _ => fun
  | [d1, d2, d3] => { results := [.lit (.bool false)], args := [d1, d2, d3] }
  | _ => none }
def FlagAllWrongFalsely : Prop := flagAllRow.holds Try.pinned (OpenSpec.ofChange flagAllWrong)

/-- 'foliotlaw13.FlagOnce': WHATEVER THE INPUT: true; the input reads as it did. -/
def flagOnceSpec : ChangeSpec := { name := "flagOnce", fn := fun _ => fun
  | [d] => { results := [.lit (.bool true)], args := [d] }
  | _ => none }
def flagOnceRow : OpenClaim := { program := "ytodboigmmekkpaa", sum := "70a95947f775830289a039221db19745c9ecb48a9b1f354c3ff63d41698d88e6", func := "foliot/foliotlaw13.FlagOnce", spec := "flagOnce", unfollowed := true, recurses := true, apart := false }
def FlagOnceSaid : Prop := flagOnceRow.holds Try.pinned (OpenSpec.ofChange flagOnceSpec)

/-- ITS FALSE NEIGHBOUR: 'it returns false'. Refute it at one input. -/
def flagOnceWrong : ChangeSpec := { name := "flagOnce", fn := fun _ => fun
  | [d] => { results := [.lit (.bool false)], args := [d] }
  | _ => none }
def FlagOnceWrongFalsely : Prop := flagOnceRow.holds Try.pinned (OpenSpec.ofChange flagOnceWrong)

/-- 'foliotlaw13.FlagForms': WHATEVER THE INPUT: true; the input reads as it did. -/
def flagFormsSpec : ChangeSpec := { name := "flagForms", fn := fun _ => fun
  | [] => { results := [.lit (.bool true)], args := [] }
  | _ => none }
def flagFormsRow : OpenClaim := { program := "ytodboigmmekkpaa", sum := "70a95947f775830289a039221db19745c9ecb48a9b1f354c3ff63d41698d88e6", func := "foliot/foliotlaw13.FlagForms", spec := "flagForms", unfollowed := true, recurses := true, apart := false }
def FlagFormsSaid : Prop := flagFormsRow.holds Try.pinned (OpenSpec.ofChange flagFormsSpec)

/-- ITS FALSE NEIGHBOUR: 'it returns false'. Refute it at one input. -/
def flagFormsWrong : ChangeSpec := { name := "flagForms", fn := fun _ => fun
  | [] => { results := [.lit (.bool false)], args := [] }
  | _ => none }
def FlagFormsWrongFalsely : Prop := flagFormsRow.holds Try.pinned (OpenSpec.ofChange flagFormsWrong)

/-- 'foliotlaw13.FlagBits': WHATEVER THE INPUT: true; the input reads as it did. -/
def flagBitsSpec : ChangeSpec := { name := "flagBits", fn := fun _ => fun
  | [d1, d2, d3] => { results := [.lit (.bool true)], args := [d1, d2, d3] }
  | _ => none }
def flagBitsRow : OpenClaim := { program := "ytodboigmmekkpaa", sum := "70a95947f775830289a039221db19745c9ecb48a9b1f354c3ff63d41698d88e6", func := "foliot/foliotlaw13.FlagBits", spec := "flagBits", unfollowed := true, recurses := true, apart := false }
def FlagBitsSaid : Prop := flagBitsRow.holds Try.pinned (OpenSpec.ofChange flagBitsSpec)

/-- ITS FALSE NEIGHBOUR: 'it returns false'. Refute it at one input. -/
def flagBitsWrong : ChangeSpec := { name := "flagBits", fn := fun _ => fun
  | [d1, d2, d3] => { results := [.lit (.bool false)], args := [d1, d2, d3] }
  | _ => none }
def FlagBitsWrongFalsely : Prop := flagBitsRow.holds Try.pinned (OpenSpec.ofChange flagBitsWrong)

/- THE SECOND FORM. 'bulk': how many values and letters a reading holds, each counted each time it is reached (what is shared counts as often as it is met; a slice's spare places count too). A statement '..UptoSaid' is the law's where the arguments, and the package variables that the reading takes, are together of bulk at most 1048576: NARROWER than '..Said'. Prove '..Said' where nothing that the law and all that it calls make is longer than what came in: it says more and counts as full. Else prove '..UptoSaid'. A law counts once. -/
mutual
def uptoBulk {H : Type} : DataW H → Nat
  | .lit (.string bytes) => bytes.length + 1
  | .lit _ => 1
  | .nil => 1
  | .ptr d => uptoBulk d + 1
  | .slice elems spare => uptoBulkAll elems + uptoBulkAll spare + 1
  | .agg parts => uptoBulkAll parts + 1
  | .iface _ d => uptoBulk d + 1
  | .map entries => uptoBulkEntries entries + 1
  | .held _ => 1
def uptoBulkAll {H : Type} : List (DataW H) → Nat
  | [] => 0
  | d :: r => uptoBulk d + uptoBulkAll r
def uptoBulkEntries {H : Type} : List (Lit × DataW H) → Nat
  | [] => 0
  | x :: r => uptoBulkEntry x + uptoBulkEntries r
def uptoBulkEntry {H : Type} : Lit × DataW H → Nat
  | (.string bytes, d) => bytes.length + uptoBulk d + 1
  | (_, d) => uptoBulk d + 1
 end
def uptoSmall : (H : Type) → List (DataW H) → Bool := fun _ ds => decide (uptoBulkAll ds ≤ 1048576)
def OpenSpec.upto (s : _root_.Go.ChangeSpec) : _root_.Go.OpenSpec := { _root_.Go.OpenSpec.ofChange s with cond := some uptoSmall }

/-- 'foliotlaw13.FlagAll', WHERE WHAT IT READS IS OF BULK AT MOST 1048576: true; the input reads as it did. -/
def flagAllUptoRow : OpenClaim := { program := "ytodboigmmekkpaa", sum := "70a95947f775830289a039221db19745c9ecb48a9b1f354c3ff63d41698d88e6", func := "foliot/foliotlaw13.FlagAll", spec := "flagAll", unfollowed := true, recurses := true, apart := false, narrowed := true }
def FlagAllUptoSaid : Prop := flagAllUptoRow.holds Try.pinned (OpenSpec.upto flagAllSpec)

/-- 'foliotlaw13.FlagOnce', WHERE WHAT IT READS IS OF BULK AT MOST 1048576: true; the input reads as it did. -/
def flagOnceUptoRow : OpenClaim := { program := "ytodboigmmekkpaa", sum := "70a95947f775830289a039221db19745c9ecb48a9b1f354c3ff63d41698d88e6", func := "foliot/foliotlaw13.FlagOnce", spec := "flagOnce", unfollowed := true, recurses := true, apart := false, narrowed := true }
def FlagOnceUptoSaid : Prop := flagOnceUptoRow.holds Try.pinned (OpenSpec.upto flagOnceSpec)

/-- 'foliotlaw13.FlagForms', WHERE WHAT IT READS IS OF BULK AT MOST 1048576: true; the input reads as it did. -/
def flagFormsUptoRow : OpenClaim := { program := "ytodboigmmekkpaa", sum := "70a95947f775830289a039221db19745c9ecb48a9b1f354c3ff63d41698d88e6", func := "foliot/foliotlaw13.FlagForms", spec := "flagForms", unfollowed := true, recurses := true, apart := false, narrowed := true }
def FlagFormsUptoSaid : Prop := flagFormsUptoRow.holds Try.pinned (OpenSpec.upto flagFormsSpec)

/-- 'foliotlaw13.FlagBits', WHERE WHAT IT READS IS OF BULK AT MOST 1048576: true; the input reads as it did. -/
def flagBitsUptoRow : OpenClaim := { program := "ytodboigmmekkpaa", sum := "70a95947f775830289a039221db19745c9ecb48a9b1f354c3ff63d41698d88e6", func := "foliot/foliotlaw13.FlagBits", spec := "flagBits", unfollowed := true, recurses := true, apart := false, narrowed := true }
def FlagBitsUptoSaid : Prop := flagBitsUptoRow.holds Try.pinned (OpenSpec.upto flagBitsSpec)

end Rows
end Go.Proofs.Ytodboigmmekkpaa
