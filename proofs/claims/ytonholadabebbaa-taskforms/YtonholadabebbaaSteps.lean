/-
  A step of a machine, by the document: whatever the instruction.
-/
import Derived.Test.YtonholadabebbaaStep
import Derived.Test.YtonholadabebbaaStepa
import Derived.Test.YtonholadabebbaaStepb
import Derived.Test.YtonholadabebbaaStepc
import Derived.Test.YtonholadabebbaaStepd
import Derived.Test.YtonholadabebbaaStepe
import Derived.Test.YtonholadabebbaaStepf
import Derived.Test.YtonholadabebbaaStepg
import Derived.Test.YtonholadabebbaaSteph
import Derived.Test.YtonholadabebbaaStepi
namespace Go.Proofs.Ytonholadabebbaa
open Go.ChangeShapes Go.WideShapes Go.ChangeAt Go.RowKit
attribute [local go_sem ↓] Go.wp_at_zero Go.wp_at_succ

theorem step_ex (p : Option Addr) (c : Nat) (l : List In) (w : World) (hr : Rd eIn w p c l) (n : Nat) (hN : l.length = n) (hn : n ≤ 1000) (pc : Nat) (hpc : pc < n) (mem : List Int) (hm : mem.length = 8) (hMb : ∀ v ∈ mem, -9223372036854775808 ≤ v ∧ v ≤ 9223372036854775807) (q : Option Addr) (d k : Nat) (R : List Rp) (hR : Rd eRp w q d R) (hk : R.length = k) (hk3 : k ≤ 1000) (hRb : ∀ r ∈ R, -9223372036854775808 ≤ r.2.2 ∧ r.2.2 ≤ 9223372036854775807) (hmy : mayB (gt l pc) = true) : Calls Try.prog 25 #[.slice p n c, .agg (mcell pc mem q k d false)] w fun e w' => StepTold pc mem R (gt l pc) w e w' := by
  have hm2 := may_iff.1 hmy
  unfold mayP at hm2
  have h11 := (may_bd hmy).1
  rcases (by omega : (gt l pc).1 = 0 ∨ (gt l pc).1 = 1 ∨ (gt l pc).1 = 2 ∨ (gt l pc).1 = 3 ∨ (gt l pc).1 = 4 ∨ (gt l pc).1 = 5 ∨ (gt l pc).1 = 6 ∨ (gt l pc).1 = 7 ∨ (gt l pc).1 = 8 ∨ ((gt l pc).1 = 9 ∨ (gt l pc).1 = 10 ∨ (gt l pc).1 = 11)) with h | h | h | h | h | h | h | h | h | h
  · exact step_end p c l w hr n hN hn pc hpc mem hm q d k R hR hk hk3 hRb hmy h
  · exact stp_put p c l w hr n hN hn pc hpc mem hm q d k R hR hk hk3 hRb hmy h
  · exact stp_add p c l w hr n hN hn pc hpc mem hm q d k R hR hk hk3 hRb hmy h
  · exact stp_sub p c l w hr n hN hn pc hpc mem hm q d k R hR hk hk3 hRb hmy h
  · exact stp_mul p c l w hr n hN hn pc hpc mem hm q d k R hR hk hk3 hRb hmy h
  · exact stp_shift p c l w hr n hN hn pc hpc mem hm q d k R hR hk hk3 hRb hmy hMb h
  · exact stp_narrow p c l w hr n hN hn pc hpc mem hm q d k R hR hk hk3 hRb hmy h
  · by_cases hv : mem[(gt l pc).2.1.toNat]? = some 0
    · exact step_skip p c l w hr n hN hn pc hpc mem hm q d k R hR hk hk3 hRb hmy h (by omega) hv
    · exact step_stay p c l w hr n hN hn pc hpc mem hm q d k R hR hk hk3 hRb hmy h (by omega) hv
  · exact step_rep p c l w hr n hN hn pc hpc mem hm q d k R hR hk hk3 hRb hmy h (by omega)
  · exact step_nop p c l w hr n hN hn pc hpc mem hm q d k R hR hk hk3 hRb hmy h
end Go.Proofs.Ytonholadabebbaa
