/-
  No cell of these rows narrows 'for every input' (looked for: loops, veiled, ifaces, maps, wideKeys, modest, calm, conditions, laid).
  DERIVED. THE GIVEN ROWS OF THIS SEAT. 6 by the template 'for every input the law returns true; each argument reads behind the call as it read before'; 0 by the template 'total and deterministic' (their statements: YtbpckoopinjioaaTotals.lean).
  GIVEN WITH THE SEED: the statements are not yours to turn. If you find one false, say at which input.
  Laid BY PROGRAM, IN A SANDBOX (cutbox-rows.mjs): the forced cells as the released guide's own fill.sh prints them over the translation 9e36b568d1239750… (all of the seat's roots in one cut). By AI agents, Wed Nov 11 2026. No macro, syntax, notation, axiom, sorry.
-/
import Derived.Test.YtbpckoopinjioaaChecked
import GoSem.Claim
import GoSem.ClaimJoined
import GoSem.ClaimMapViews
import Derived.JoinedTies
import Derived.KernelRfl
namespace Go.Proofs.Ytbpckoopinjioaa
/- THE CELL 'sum', in the pinned program and in every row, IS THE sha256 OF THE DUMP (.gsa) THAT YtbpckoopinjioaaProg.lean LOADS. Nothing in Lean hashes anything: it is a label: what it is worth is what the hold of that sum in a sandbox is worth. -/
noncomputable def Try.pinned : Pinned := { name := "ytbpckoopinjioaa", sum := "9e36b568d123975036786ce06901753da9e5ba703a9c8e315ed0d6817b3f351b", checked := Try.checked }
namespace Rows
def none {H : Type} : Left H := { results := [], args := [] }

/-- 'foliotlaw1.SatAll': WHATEVER THE INPUT: true; the input reads as it did. -/
def satAllSpec : ChangeSpec := { name := "satAll", fn := fun _ => fun
  | [d1, d2] => { results := [.lit (.bool true)], args := [d1, d2] }
  | _ => none }
def satAllRow : OpenClaim := { program := "ytbpckoopinjioaa", sum := "9e36b568d123975036786ce06901753da9e5ba703a9c8e315ed0d6817b3f351b", func := "foliot/foliotlaw1.SatAll", spec := "satAll", apart := false }
def SatAllSaid : Prop := satAllRow.holds Try.pinned (OpenSpec.ofChange satAllSpec)

/-- ITS FALSE NEIGHBOUR: 'it returns false'. Refute it at one input. -/
def satAllWrong : ChangeSpec := { name := "satAll", fn := fun _ => fun
  | [d1, d2] => { results := [.lit (.bool false)], args := [d1, d2] }
  | _ => none }
def SatAllWrongFalsely : Prop := satAllRow.holds Try.pinned (OpenSpec.ofChange satAllWrong)

/-- 'foliotlaw1.SatUp': WHATEVER THE INPUT: true; the input reads as it did. -/
def satUpSpec : ChangeSpec := { name := "satUp", fn := fun _ => fun
  | [d1, d2] => { results := [.lit (.bool true)], args := [d1, d2] }
  | _ => none }
def satUpRow : OpenClaim := { program := "ytbpckoopinjioaa", sum := "9e36b568d123975036786ce06901753da9e5ba703a9c8e315ed0d6817b3f351b", func := "foliot/foliotlaw1.SatUp", spec := "satUp", apart := false }
def SatUpSaid : Prop := satUpRow.holds Try.pinned (OpenSpec.ofChange satUpSpec)

/-- ITS FALSE NEIGHBOUR: 'it returns false'. Refute it at one input. -/
def satUpWrong : ChangeSpec := { name := "satUp", fn := fun _ => fun
  | [d1, d2] => { results := [.lit (.bool false)], args := [d1, d2] }
  | _ => none }
def SatUpWrongFalsely : Prop := satUpRow.holds Try.pinned (OpenSpec.ofChange satUpWrong)

/-- 'foliotlaw1.SatBack': WHATEVER THE INPUT: true; the input reads as it did. -/
def satBackSpec : ChangeSpec := { name := "satBack", fn := fun _ => fun
  | [d1, d2] => { results := [.lit (.bool true)], args := [d1, d2] }
  | _ => none }
def satBackRow : OpenClaim := { program := "ytbpckoopinjioaa", sum := "9e36b568d123975036786ce06901753da9e5ba703a9c8e315ed0d6817b3f351b", func := "foliot/foliotlaw1.SatBack", spec := "satBack", apart := false }
def SatBackSaid : Prop := satBackRow.holds Try.pinned (OpenSpec.ofChange satBackSpec)

/-- ITS FALSE NEIGHBOUR: 'it returns false'. Refute it at one input. -/
def satBackWrong : ChangeSpec := { name := "satBack", fn := fun _ => fun
  | [d1, d2] => { results := [.lit (.bool false)], args := [d1, d2] }
  | _ => none }
def SatBackWrongFalsely : Prop := satBackRow.holds Try.pinned (OpenSpec.ofChange satBackWrong)

/-- 'foliotlaw1.SatForms': WHATEVER THE INPUT: true; the input reads as it did. -/
def satFormsSpec : ChangeSpec := { name := "satForms", fn := fun _ => fun
  | [] => { results := [.lit (.bool true)], args := [] }
  | _ => none }
def satFormsRow : OpenClaim := { program := "ytbpckoopinjioaa", sum := "9e36b568d123975036786ce06901753da9e5ba703a9c8e315ed0d6817b3f351b", func := "foliot/foliotlaw1.SatForms", spec := "satForms", apart := false }
def SatFormsSaid : Prop := satFormsRow.holds Try.pinned (OpenSpec.ofChange satFormsSpec)

/-- ITS FALSE NEIGHBOUR: 'it returns false'. Refute it at one input. -/
def satFormsWrong : ChangeSpec := { name := "satForms", fn := fun _ => fun
  | [] => { results := [.lit (.bool false)], args := [] }
  | _ => none }
def SatFormsWrongFalsely : Prop := satFormsRow.holds Try.pinned (OpenSpec.ofChange satFormsWrong)

/-- 'foliotlaw1.SatOrder': WHATEVER THE INPUT: true; the input reads as it did. -/
def satOrderSpec : ChangeSpec := { name := "satOrder", fn := fun _ => fun
  | [d1, d2, d3] => { results := [.lit (.bool true)], args := [d1, d2, d3] }
  | _ => none }
def satOrderRow : OpenClaim := { program := "ytbpckoopinjioaa", sum := "9e36b568d123975036786ce06901753da9e5ba703a9c8e315ed0d6817b3f351b", func := "foliot/foliotlaw1.SatOrder", spec := "satOrder", apart := false }
def SatOrderSaid : Prop := satOrderRow.holds Try.pinned (OpenSpec.ofChange satOrderSpec)

/-- ITS FALSE NEIGHBOUR: 'it returns false'. Refute it at one input. -/
def satOrderWrong : ChangeSpec := { name := "satOrder", fn := fun _ => fun
  | [d1, d2, d3] => { results := [.lit (.bool false)], args := [d1, d2, d3] }
  | _ => none }
def SatOrderWrongFalsely : Prop := satOrderRow.holds Try.pinned (OpenSpec.ofChange satOrderWrong)

/-- 'foliotlaw1.SatHalves': WHATEVER THE INPUT: true; the input reads as it did. -/
def satHalvesSpec : ChangeSpec := { name := "satHalves", fn := fun _ => fun
  | [d1, d2, d3] => { results := [.lit (.bool true)], args := [d1, d2, d3] }
  | _ => none }
def satHalvesRow : OpenClaim := { program := "ytbpckoopinjioaa", sum := "9e36b568d123975036786ce06901753da9e5ba703a9c8e315ed0d6817b3f351b", func := "foliot/foliotlaw1.SatHalves", spec := "satHalves", apart := false }
def SatHalvesSaid : Prop := satHalvesRow.holds Try.pinned (OpenSpec.ofChange satHalvesSpec)

/-- ITS FALSE NEIGHBOUR: 'it returns false'. Refute it at one input. -/
def satHalvesWrong : ChangeSpec := { name := "satHalves", fn := fun _ => fun
  | [d1, d2, d3] => { results := [.lit (.bool false)], args := [d1, d2, d3] }
  | _ => none }
def SatHalvesWrongFalsely : Prop := satHalvesRow.holds Try.pinned (OpenSpec.ofChange satHalvesWrong)

/- THE SECOND FORM. 'bulk': how many values and letters a reading holds, each counted each time it is reached (what is shared counts as often as it is met; a slice's spare places count too). A statement '..UptoSaid' is the law's where the arguments, and the package variables that the reading takes, are together of bulk at most 1048576: NARROWER than '..Said'. Prove '..Said' where nothing that the law and all that it calls make is longer than what came in: it says more and counts as full. Else prove '..UptoSaid'. A law counts once. -/
mutual
def uptoBulk {H : Type} : DataW H → Nat
  | .lit (.string bytes) => bytes.length + 1
  | .lit _ => 1
  | .nil => 1
  | .ptr d => uptoBulk d + 1
  | .slice elems spare => uptoBulkAll elems + uptoBulkAll spare + 1
  | .agg parts => uptoBulkAll parts + 1
  | .iface _ d => uptoBulk d + 1
  | .map entries => uptoBulkEntries entries + 1
  | .held _ => 1
def uptoBulkAll {H : Type} : List (DataW H) → Nat
  | [] => 0
  | d :: r => uptoBulk d + uptoBulkAll r
def uptoBulkEntries {H : Type} : List (Lit × DataW H) → Nat
  | [] => 0
  | x :: r => uptoBulkEntry x + uptoBulkEntries r
def uptoBulkEntry {H : Type} : Lit × DataW H → Nat
  | (.string bytes, d) => bytes.length + uptoBulk d + 1
  | (_, d) => uptoBulk d + 1
 end
def uptoSmall : (H : Type) → List (DataW H) → Bool := fun _ ds => decide (uptoBulkAll ds ≤ 1048576)
def OpenSpec.upto (s : _root_.Go.ChangeSpec) : _root_.Go.OpenSpec := { _root_.Go.OpenSpec.ofChange s with cond := some uptoSmall }

/-- 'foliotlaw1.SatAll', WHERE WHAT IT READS IS OF BULK AT MOST 1048576: true; the input reads as it did. -/
def satAllUptoRow : OpenClaim := { program := "ytbpckoopinjioaa", sum := "9e36b568d123975036786ce06901753da9e5ba703a9c8e315ed0d6817b3f351b", func := "foliot/foliotlaw1.SatAll", spec := "satAll", apart := false, narrowed := true }
def SatAllUptoSaid : Prop := satAllUptoRow.holds Try.pinned (OpenSpec.upto satAllSpec)

/-- 'foliotlaw1.SatUp', WHERE WHAT IT READS IS OF BULK AT MOST 1048576: true; the input reads as it did. -/
def satUpUptoRow : OpenClaim := { program := "ytbpckoopinjioaa", sum := "9e36b568d123975036786ce06901753da9e5ba703a9c8e315ed0d6817b3f351b", func := "foliot/foliotlaw1.SatUp", spec := "satUp", apart := false, narrowed := true }
def SatUpUptoSaid : Prop := satUpUptoRow.holds Try.pinned (OpenSpec.upto satUpSpec)

/-- 'foliotlaw1.SatBack', WHERE WHAT IT READS IS OF BULK AT MOST 1048576: true; the input reads as it did. -/
def satBackUptoRow : OpenClaim := { program := "ytbpckoopinjioaa", sum := "9e36b568d123975036786ce06901753da9e5ba703a9c8e315ed0d6817b3f351b", func := "foliot/foliotlaw1.SatBack", spec := "satBack", apart := false, narrowed := true }
def SatBackUptoSaid : Prop := satBackUptoRow.holds Try.pinned (OpenSpec.upto satBackSpec)

/-- 'foliotlaw1.SatForms', WHERE WHAT IT READS IS OF BULK AT MOST 1048576: true; the input reads as it did. -/
def satFormsUptoRow : OpenClaim := { program := "ytbpckoopinjioaa", sum := "9e36b568d123975036786ce06901753da9e5ba703a9c8e315ed0d6817b3f351b", func := "foliot/foliotlaw1.SatForms", spec := "satForms", apart := false, narrowed := true }
def SatFormsUptoSaid : Prop := satFormsUptoRow.holds Try.pinned (OpenSpec.upto satFormsSpec)

/-- 'foliotlaw1.SatOrder', WHERE WHAT IT READS IS OF BULK AT MOST 1048576: true; the input reads as it did. -/
def satOrderUptoRow : OpenClaim := { program := "ytbpckoopinjioaa", sum := "9e36b568d123975036786ce06901753da9e5ba703a9c8e315ed0d6817b3f351b", func := "foliot/foliotlaw1.SatOrder", spec := "satOrder", apart := false, narrowed := true }
def SatOrderUptoSaid : Prop := satOrderUptoRow.holds Try.pinned (OpenSpec.upto satOrderSpec)

/-- 'foliotlaw1.SatHalves', WHERE WHAT IT READS IS OF BULK AT MOST 1048576: true; the input reads as it did. -/
def satHalvesUptoRow : OpenClaim := { program := "ytbpckoopinjioaa", sum := "9e36b568d123975036786ce06901753da9e5ba703a9c8e315ed0d6817b3f351b", func := "foliot/foliotlaw1.SatHalves", spec := "satHalves", apart := false, narrowed := true }
def SatHalvesUptoSaid : Prop := satHalvesUptoRow.holds Try.pinned (OpenSpec.upto satHalvesSpec)

end Rows
end Go.Proofs.Ytbpckoopinjioaa
