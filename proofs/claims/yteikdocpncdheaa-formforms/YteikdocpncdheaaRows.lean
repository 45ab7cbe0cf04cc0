/-
  No cell of these rows narrows 'for every input' (looked for: loops, veiled, ifaces, maps, wideKeys, modest, calm, conditions, laid).
  DERIVED. THE GIVEN ROWS OF THIS SEAT. 6 by the template 'for every input the law returns true; each argument reads behind the call as it read before'; 0 by the template 'total and deterministic' (their statements: YteikdocpncdheaaTotals.lean).
  GIVEN WITH THE SEED: the statements are not yours to turn. If you find one false, say at which input.
  Laid BY PROGRAM, IN A SANDBOX (cutbox-rows.mjs): the forced cells as the released guide's own fill.sh prints them over the translation ab97105d392b8a2d… (all of the seat's roots in one cut). By AI agents, Wed Nov 11 2026. No macro, syntax, notation, axiom, sorry.
-/
import Derived.Test.YteikdocpncdheaaChecked
import GoSem.Claim
import GoSem.ClaimJoined
import GoSem.ClaimMapViews
import Derived.JoinedTies
import Derived.KernelRfl
namespace Go.Proofs.Yteikdocpncdheaa
/- THE CELL 'sum', in the pinned program and in every row, IS THE sha256 OF THE DUMP (.gsa) THAT YteikdocpncdheaaProg.lean LOADS. Nothing in Lean hashes anything: it is a label: what it is worth is what the hold of that sum in a sandbox is worth. -/
noncomputable def Try.pinned : Pinned := { name := "yteikdocpncdheaa", sum := "ab97105d392b8a2d798f71c45e3f945882c6cea9f8a7d49a960220eefe86671f", checked := Try.checked }
namespace Rows
def none {H : Type} : Left H := { results := [], args := [] }

/-- 'foliotlaw7.CostAll': WHATEVER THE INPUT: true; the input reads as it did. -/
def costAllSpec : ChangeSpec := { name := "costAll", fn := fun _ => fun
  | [d1, d2] => { results := [.lit (.bool true)], args := [d1, d2] }
  | _ => none }
def costAllRow : OpenClaim := { program := "yteikdocpncdheaa", sum := "ab97105d392b8a2d798f71c45e3f945882c6cea9f8a7d49a960220eefe86671f", func := "foliot/foliotlaw7.CostAll", spec := "costAll", unfollowed := true, recurses := true, plainKeys := false, apart := false }
def CostAllSaid : Prop := costAllRow.holds Try.pinned (OpenSpec.ofChange costAllSpec)

/-- ITS FALSE NEIGHBOUR: 'it returns false'. Refute it at one input. -/
def costAllWrong : ChangeSpec := { name := "costAll", fn := fun _ => fun
  | [d1, d2] => { results := [.lit (.bool false)], args := [d1, d2] }
  | _ => none }
def CostAllWrongFalsely : Prop := costAllRow.holds Try.pinned (OpenSpec.ofChange costAllWrong)

/-- 'foliotlaw7.CostHolds': WHATEVER THE INPUT: true; the input reads as it did. -/
def costHoldsSpec : ChangeSpec := { name := "costHolds", fn := fun _ => fun
  | [d1, d2] => { results := [.lit (.bool true)], args := [d1, d2] }
  | _ => none }
def costHoldsRow : OpenClaim := { program := "yteikdocpncdheaa", sum := "ab97105d392b8a2d798f71c45e3f945882c6cea9f8a7d49a960220eefe86671f", func := "foliot/foliotlaw7.CostHolds", spec := "costHolds", unfollowed := true, recurses := true, plainKeys := false, apart := false }
def CostHoldsSaid : Prop := costHoldsRow.holds Try.pinned (OpenSpec.ofChange costHoldsSpec)

/-- ITS FALSE NEIGHBOUR: 'it returns false'. Refute it at one input. -/
def costHoldsWrong : ChangeSpec := { name := "costHolds", fn := fun _ => fun
  | [d1, d2] => { results := [.lit (.bool false)], args := [d1, d2] }
  | _ => none }
def CostHoldsWrongFalsely : Prop := costHoldsRow.holds Try.pinned (OpenSpec.ofChange costHoldsWrong)

/-- 'foliotlaw7.CostStraight': WHATEVER THE INPUT: true; the input reads as it did. -/
def costStraightSpec : ChangeSpec := { name := "costStraight", fn := fun _ => fun
  | [d1, d2] => { results := [.lit (.bool true)], args := [d1, d2] }
  | _ => none }
def costStraightRow : OpenClaim := { program := "yteikdocpncdheaa", sum := "ab97105d392b8a2d798f71c45e3f945882c6cea9f8a7d49a960220eefe86671f", func := "foliot/foliotlaw7.CostStraight", spec := "costStraight", unfollowed := true, recurses := true, plainKeys := false, apart := false }
def CostStraightSaid : Prop := costStraightRow.holds Try.pinned (OpenSpec.ofChange costStraightSpec)

/-- ITS FALSE NEIGHBOUR: 'it returns false'. Refute it at one input. -/
def costStraightWrong : ChangeSpec := { name := "costStraight", fn := fun _ => fun
  | [d1, d2] => { results := [.lit (.bool false)], args := [d1, d2] }
  | _ => none }
def CostStraightWrongFalsely : Prop := costStraightRow.holds Try.pinned (OpenSpec.ofChange costStraightWrong)

/-- 'foliotlaw7.CostForms': WHATEVER THE INPUT: true; the input reads as it did. -/
def costFormsSpec : ChangeSpec := { name := "costForms", fn := fun _ => fun
  | [] => { results := [.lit (.bool true)], args := [] }
  | _ => none }
def costFormsRow : OpenClaim := { program := "yteikdocpncdheaa", sum := "ab97105d392b8a2d798f71c45e3f945882c6cea9f8a7d49a960220eefe86671f", func := "foliot/foliotlaw7.CostForms", spec := "costForms", unfollowed := true, recurses := true, plainKeys := false, apart := false }
def CostFormsSaid : Prop := costFormsRow.holds Try.pinned (OpenSpec.ofChange costFormsSpec)

/-- ITS FALSE NEIGHBOUR: 'it returns false'. Refute it at one input. -/
def costFormsWrong : ChangeSpec := { name := "costForms", fn := fun _ => fun
  | [] => { results := [.lit (.bool false)], args := [] }
  | _ => none }
def CostFormsWrongFalsely : Prop := costFormsRow.holds Try.pinned (OpenSpec.ofChange costFormsWrong)

/-- 'foliotlaw7.CostMore': WHATEVER THE INPUT: true; the input reads as it did. -/
def costMoreSpec : ChangeSpec := { name := "costMore", fn := fun _ => fun
  | [d] => { results := [.lit (.bool true)], args := [d] }
  | _ => none }
def costMoreRow : OpenClaim := { program := "yteikdocpncdheaa", sum := "ab97105d392b8a2d798f71c45e3f945882c6cea9f8a7d49a960220eefe86671f", func := "foliot/foliotlaw7.CostMore", spec := "costMore", unfollowed := true, recurses := true, plainKeys := false, apart := false }
def CostMoreSaid : Prop := costMoreRow.holds Try.pinned (OpenSpec.ofChange costMoreSpec)

/-- ITS FALSE NEIGHBOUR: 'it returns false'. Refute it at one input. -/
def costMoreWrong : ChangeSpec := { name := "costMore", fn := fun _ => fun
  | [d] => { results := [.lit (.bool false)], args := [d] }
  | _ => none }
def CostMoreWrongFalsely : Prop := costMoreRow.holds Try.pinned (OpenSpec.ofChange costMoreWrong)

/-- 'foliotlaw6.FormForms': WHATEVER THE INPUT: true; the input reads as it did. -/
def formFormsSpec : ChangeSpec := { name := "formForms", fn := fun _ => fun
  | [] => { results := [.lit (.bool true)], args := [] }
  | _ => none }
def formFormsRow : OpenClaim := { program := "yteikdocpncdheaa", sum := "ab97105d392b8a2d798f71c45e3f945882c6cea9f8a7d49a960220eefe86671f", func := "foliot/foliotlaw6.FormForms", spec := "formForms", unfollowed := true, recurses := true, plainKeys := false, apart := false }
def FormFormsSaid : Prop := formFormsRow.holds Try.pinned (OpenSpec.ofChange formFormsSpec)

/-- ITS FALSE NEIGHBOUR: 'it returns false'. Refute it at one input. -/
def formFormsWrong : ChangeSpec := { name := "formForms", fn := fun _ => fun
  | [] => { results := [.lit (.bool false)], args := [] }
  | _ => none }
def FormFormsWrongFalsely : Prop := formFormsRow.holds Try.pinned (OpenSpec.ofChange formFormsWrong)

/- THE SECOND FORM. 'bulk': how many values and letters a reading holds, each counted each time it is reached (what is shared counts as often as it is met; a slice's spare places count too). A statement '..UptoSaid' is the law's where the arguments, and the package variables that the reading takes, are together of bulk at most 1048576: NARROWER than '..Said'. Prove '..Said' where nothing that the law and all that it calls make is longer than what came in: it says more and counts as full. Else prove '..UptoSaid'. A law counts once. -/
mutual
def uptoBulk {H : Type} : DataW H → Nat
  | .lit (.string bytes) => bytes.length + 1
  | .lit _ => 1
  | .nil => 1
  | .ptr d => uptoBulk d + 1
  | .slice elems spare => uptoBulkAll elems + uptoBulkAll spare + 1
  | .agg parts => uptoBulkAll parts + 1
  | .iface _ d => uptoBulk d + 1
  | .map entries => uptoBulkEntries entries + 1
  | .held _ => 1
def uptoBulkAll {H : Type} : List (DataW H) → Nat
  | [] => 0
  | d :: r => uptoBulk d + uptoBulkAll r
def uptoBulkEntries {H : Type} : List (Lit × DataW H) → Nat
  | [] => 0
  | x :: r => uptoBulkEntry x + uptoBulkEntries r
def uptoBulkEntry {H : Type} : Lit × DataW H → Nat
  | (.string bytes, d) => bytes.length + uptoBulk d + 1
  | (_, d) => uptoBulk d + 1
 end
def uptoSmall : (H : Type) → List (DataW H) → Bool := fun _ ds => decide (uptoBulkAll ds ≤ 1048576)
def OpenSpec.upto (s : _root_.Go.ChangeSpec) : _root_.Go.OpenSpec := { _root_.Go.OpenSpec.ofChange s with cond := some uptoSmall }

/-- 'foliotlaw7.CostAll', WHERE WHAT IT READS IS OF BULK AT MOST 1048576: true; the input reads as it did. -/
def costAllUptoRow : OpenClaim := { program := "yteikdocpncdheaa", sum := "ab97105d392b8a2d798f71c45e3f945882c6cea9f8a7d49a960220eefe86671f", func := "foliot/foliotlaw7.CostAll", spec := "costAll", unfollowed := true, recurses := true, plainKeys := false, apart := false, narrowed := true }
def CostAllUptoSaid : Prop := costAllUptoRow.holds Try.pinned (OpenSpec.upto costAllSpec)

/-- 'foliotlaw7.CostHolds', WHERE WHAT IT READS IS OF BULK AT MOST 1048576: true; the input reads as it did. -/
def costHoldsUptoRow : OpenClaim := { program := "yteikdocpncdheaa", sum := "ab97105d392b8a2d798f71c45e3f945882c6cea9f8a7d49a960220eefe86671f", func := "foliot/foliotlaw7.CostHolds", spec := "costHolds", unfollowed := true, recurses := true, plainKeys := false, apart := false, narrowed := true }
def CostHoldsUptoSaid : Prop := costHoldsUptoRow.holds Try.pinned (OpenSpec.upto costHoldsSpec)

/-- 'foliotlaw7.CostStraight', WHERE WHAT IT READS IS OF BULK AT MOST 1048576: true; the input reads as it did. -/
def costStraightUptoRow : OpenClaim := { program := "yteikdocpncdheaa", sum := "ab97105d392b8a2d798f71c45e3f945882c6cea9f8a7d49a960220eefe86671f", func := "foliot/foliotlaw7.CostStraight", spec := "costStraight", unfollowed := true, recurses := true, plainKeys := false, apart := false, narrowed := true }
def CostStraightUptoSaid : Prop := costStraightUptoRow.holds Try.pinned (OpenSpec.upto costStraightSpec)

/-- 'foliotlaw7.CostForms', WHERE WHAT IT READS IS OF BULK AT MOST 1048576: true; the input reads as it did. -/
def costFormsUptoRow : OpenClaim := { program := "yteikdocpncdheaa", sum := "ab97105d392b8a2d798f71c45e3f945882c6cea9f8a7d49a960220eefe86671f", func := "foliot/foliotlaw7.CostForms", spec := "costForms", unfollowed := true, recurses := true, plainKeys := false, apart := false, narrowed := true }
def CostFormsUptoSaid : Prop := costFormsUptoRow.holds Try.pinned (OpenSpec.upto costFormsSpec)

/-- 'foliotlaw7.CostMore', WHERE WHAT IT READS IS OF BULK AT MOST 1048576: true; the input reads as it did. -/
def costMoreUptoRow : OpenClaim := { program := "yteikdocpncdheaa", sum := "ab97105d392b8a2d798f71c45e3f945882c6cea9f8a7d49a960220eefe86671f", func := "foliot/foliotlaw7.CostMore", spec := "costMore", unfollowed := true, recurses := true, plainKeys := false, apart := false, narrowed := true }
def CostMoreUptoSaid : Prop := costMoreUptoRow.holds Try.pinned (OpenSpec.upto costMoreSpec)

/-- 'foliotlaw6.FormForms', WHERE WHAT IT READS IS OF BULK AT MOST 1048576: true; the input reads as it did. -/
def formFormsUptoRow : OpenClaim := { program := "yteikdocpncdheaa", sum := "ab97105d392b8a2d798f71c45e3f945882c6cea9f8a7d49a960220eefe86671f", func := "foliot/foliotlaw6.FormForms", spec := "formForms", unfollowed := true, recurses := true, plainKeys := false, apart := false, narrowed := true }
def FormFormsUptoSaid : Prop := formFormsUptoRow.holds Try.pinned (OpenSpec.upto formFormsSpec)

end Rows
end Go.Proofs.Yteikdocpncdheaa
