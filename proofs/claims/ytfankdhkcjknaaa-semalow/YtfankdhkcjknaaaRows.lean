/-
  No cell of these rows narrows 'for every input' (looked for: loops, veiled, ifaces, maps, wideKeys, modest, calm, conditions, laid).
  DERIVED. THE GIVEN ROWS OF THIS SEAT. 4 by the template 'for every input the law returns true; each argument reads behind the call as it read before'; 0 by the template 'total and deterministic' (their statements: YtfankdhkcjknaaaTotals.lean).
  GIVEN WITH THE SEED: the statements are not yours to turn. If you find one false, say at which input.
  Laid BY PROGRAM, IN A SANDBOX (cutbox-rows.mjs): the forced cells as the released guide's own fill.sh prints them over the translation a834e4859345e6b0… (all of the seat's roots in one cut). By AI agents, Wed Nov 11 2026. No macro, syntax, notation, axiom, sorry.
-/
import Derived.Test.YtfankdhkcjknaaaChecked
import GoSem.Claim
import GoSem.ClaimJoined
import GoSem.ClaimMapViews
import Derived.JoinedTies
import Derived.KernelRfl
namespace Go.Proofs.Ytfankdhkcjknaaa
/- THE CELL 'sum', in the pinned program and in every row, IS THE sha256 OF THE DUMP (.gsa) THAT YtfankdhkcjknaaaProg.lean LOADS. Nothing in Lean hashes anything: it is a label: what it is worth is what the hold of that sum in a sandbox is worth. -/
noncomputable def Try.pinned : Pinned := { name := "ytfankdhkcjknaaa", sum := "a834e4859345e6b00a9fd7f2bed0d77731efebf19840c3f56bac17d8a5328ca2", checked := Try.checked }
namespace Rows
def none {H : Type} : Left H := { results := [], args := [] }

/-- 'foliotlaw11.SemaAll': WHATEVER THE INPUT: true; the input reads as it did. -/
def semaAllSpec : ChangeSpec := { name := "semaAll", fn := fun _ => fun
  | [d1, d2, d3, d4] => { results := [.lit (.bool true)], args := [d1, d2, d3, d4] }
  | _ => none }
def semaAllRow : OpenClaim := { program := "ytfankdhkcjknaaa", sum := "a834e4859345e6b00a9fd7f2bed0d77731efebf19840c3f56bac17d8a5328ca2", func := "foliot/foliotlaw11.SemaAll", spec := "semaAll", plainKeys := false, apart := false }
def SemaAllSaid : Prop := semaAllRow.holds Try.pinned (OpenSpec.ofChange semaAllSpec)

/-- ITS FALSE NEIGHBOUR: 'it returns false'. Refute it at one input. -/
def semaAllWrong : ChangeSpec := { name := "semaAll", fn := fun _ => fun
  | [d1, d2, d3, d4] => { results := [.lit (.bool false)], args := [d1, d2, d3, d4] }
  | _ => none }
def SemaAllWrongFalsely : Prop := semaAllRow.holds Try.pinned (OpenSpec.ofChange semaAllWrong)

/-- 'foliotlaw11.SemaOne': WHATEVER THE INPUT: true; the input reads as it did. -/
def semaOneSpec : ChangeSpec := { name := "semaOne", fn := fun _ => fun
  | [d] => { results := [.lit (.bool true)], args := [d] }
  | _ => none }
def semaOneRow : OpenClaim := { program := "ytfankdhkcjknaaa", sum := "a834e4859345e6b00a9fd7f2bed0d77731efebf19840c3f56bac17d8a5328ca2", func := "foliot/foliotlaw11.SemaOne", spec := "semaOne", plainKeys := false, apart := false }
def SemaOneSaid : Prop := semaOneRow.holds Try.pinned (OpenSpec.ofChange semaOneSpec)

/-- ITS FALSE NEIGHBOUR: 'it returns false'. Refute it at one input. -/
def semaOneWrong : ChangeSpec := { name := "semaOne", fn := fun _ => fun
  | [d] => { results := [.lit (.bool false)], args := [d] }
  | _ => none }
def SemaOneWrongFalsely : Prop := semaOneRow.holds Try.pinned (OpenSpec.ofChange semaOneWrong)

/-- 'foliotlaw11.SemaForms': WHATEVER THE INPUT: true; the input reads as it did. -/
def semaFormsSpec : ChangeSpec := { name := "semaForms", fn := fun _ => fun
  | [] => { results := [.lit (.bool true)], args := [] }
  | _ => none }
def semaFormsRow : OpenClaim := { program := "ytfankdhkcjknaaa", sum := "a834e4859345e6b00a9fd7f2bed0d77731efebf19840c3f56bac17d8a5328ca2", func := "foliot/foliotlaw11.SemaForms", spec := "semaForms", plainKeys := false, apart := false }
def SemaFormsSaid : Prop := semaFormsRow.holds Try.pinned (OpenSpec.ofChange semaFormsSpec)

/-- ITS FALSE NEIGHBOUR: 'it returns false'. Refute it at one input. -/
def semaFormsWrong : ChangeSpec := { name := "semaForms", fn := fun _ => fun
  | [] => { results := [.lit (.bool false)], args := [] }
  | _ => none }
def SemaFormsWrongFalsely : Prop := semaFormsRow.holds Try.pinned (OpenSpec.ofChange semaFormsWrong)

/-- 'foliotlaw11.SemaLow': WHATEVER THE INPUT: true; the input reads as it did. -/
def semaLowSpec : ChangeSpec := { name := "semaLow", fn := fun _ => fun
  | [d1, d2, d3, d4] => { results := [.lit (.bool true)], args := [d1, d2, d3, d4] }
  | _ => none }
def semaLowRow : OpenClaim := { program := "ytfankdhkcjknaaa", sum := "a834e4859345e6b00a9fd7f2bed0d77731efebf19840c3f56bac17d8a5328ca2", func := "foliot/foliotlaw11.SemaLow", spec := "semaLow", plainKeys := false, apart := false }
def SemaLowSaid : Prop := semaLowRow.holds Try.pinned (OpenSpec.ofChange semaLowSpec)

/-- ITS FALSE NEIGHBOUR: 'it returns false'. Refute it at one input. -/
def semaLowWrong : ChangeSpec := { name := "semaLow", fn := fun _ => fun
  | [d1, d2, d3, d4] => { results := [.lit (.bool false)], args := [d1, d2, d3, d4] }
  | _ => none }
def SemaLowWrongFalsely : Prop := semaLowRow.holds Try.pinned (OpenSpec.ofChange semaLowWrong)

/- THE SECOND FORM. 'bulk': how many values and letters a reading holds, each counted each time it is reached (what is shared counts as often as it is met; a slice's spare places count too). A statement '..UptoSaid' is the law's where the arguments, and the package variables that the reading takes, are together of bulk at most 1048576: NARROWER than '..Said'. Prove '..Said' where nothing that the law and all that it calls make is longer than what came in: it says more and counts as full. Else prove '..UptoSaid'. A law counts once. -/
mutual
def uptoBulk {H : Type} : DataW H → Nat
  | .lit (.string bytes) => bytes.length + 1
  | .lit _ => 1
  | .nil => 1
  | .ptr d => uptoBulk d + 1
  | .slice elems spare => uptoBulkAll elems + uptoBulkAll spare + 1
  | .agg parts => uptoBulkAll parts + 1
  | .iface _ d => uptoBulk d + 1
  | .map entries => uptoBulkEntries entries + 1
  | .held _ => 1
def uptoBulkAll {H : Type} : List (DataW H) → Nat
  | [] => 0
  | d :: r => uptoBulk d + uptoBulkAll r
def uptoBulkEntries {H : Type} : List (Lit × DataW H) → Nat
  | [] => 0
  | x :: r => uptoBulkEntry x + uptoBulkEntries r
def uptoBulkEntry {H : Type} : Lit × DataW H → Nat
  | (.string bytes, d) => bytes.length + uptoBulk d + 1
  | (_, d) => uptoBulk d + 1
 end
def uptoSmall : (H : Type) → List (DataW H) → Bool := fun _ ds => decide (uptoBulkAll ds ≤ 1048576)
def OpenSpec.upto (s : _root_.Go.ChangeSpec) : _root_.Go.OpenSpec := { _root_.Go.OpenSpec.ofChange s with cond := some uptoSmall }

/-- 'foliotlaw11.SemaAll', WHERE WHAT IT READS IS OF BULK AT MOST 1048576: true; the input reads as it did. -/
def semaAllUptoRow : OpenClaim := { program := "ytfankdhkcjknaaa", sum := "a834e4859345e6b00a9fd7f2bed0d77731efebf19840c3f56bac17d8a5328ca2", func := "foliot/foliotlaw11.SemaAll", spec := "semaAll", plainKeys := false, apart := false, narrowed := true }
def SemaAllUptoSaid : Prop := semaAllUptoRow.holds Try.pinned (OpenSpec.upto semaAllSpec)

/-- 'foliotlaw11.SemaOne', WHERE WHAT IT READS IS OF BULK AT MOST 1048576: true; the input reads as it did. -/
def semaOneUptoRow : OpenClaim := { program := "ytfankdhkcjknaaa", sum := "a834e4859345e6b00a9fd7f2bed0d77731efebf19840c3f56bac17d8a5328ca2", func := "foliot/foliotlaw11.SemaOne", spec := "semaOne", plainKeys := false, apart := false, narrowed := true }
def SemaOneUptoSaid : Prop := semaOneUptoRow.holds Try.pinned (OpenSpec.upto semaOneSpec)

/-- 'foliotlaw11.SemaForms', WHERE WHAT IT READS IS OF BULK AT MOST 1048576: true; the input reads as it did. -/
def semaFormsUptoRow : OpenClaim := { program := "ytfankdhkcjknaaa", sum := "a834e4859345e6b00a9fd7f2bed0d77731efebf19840c3f56bac17d8a5328ca2", func := "foliot/foliotlaw11.SemaForms", spec := "semaForms", plainKeys := false, apart := false, narrowed := true }
def SemaFormsUptoSaid : Prop := semaFormsUptoRow.holds Try.pinned (OpenSpec.upto semaFormsSpec)

/-- 'foliotlaw11.SemaLow', WHERE WHAT IT READS IS OF BULK AT MOST 1048576: true; the input reads as it did. -/
def semaLowUptoRow : OpenClaim := { program := "ytfankdhkcjknaaa", sum := "a834e4859345e6b00a9fd7f2bed0d77731efebf19840c3f56bac17d8a5328ca2", func := "foliot/foliotlaw11.SemaLow", spec := "semaLow", plainKeys := false, apart := false, narrowed := true }
def SemaLowUptoSaid : Prop := semaLowUptoRow.holds Try.pinned (OpenSpec.upto semaLowSpec)

end Rows
end Go.Proofs.Ytfankdhkcjknaaa
