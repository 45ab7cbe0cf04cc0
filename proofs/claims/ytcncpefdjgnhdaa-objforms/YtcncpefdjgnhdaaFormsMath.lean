/-
  The tables of ObjForms.
-/
import Derived.Test.YtcncpefdjgnhdaaAudn
import Derived.Test.YtcncpefdjgnhdaaMakes
import Derived.Test.YtcncpefdjgnhdaaDrops
namespace Go.Proofs.Ytcncpefdjgnhdaa
open Go.ChangeShapes Go.WideShapes Go.ChangeAt Go.RowKit
attribute [local go_sem ↓] Go.wp_at_zero Go.wp_at_succ

/-- the kinds -/
def kd (n : Nat) : Int := ((n % 3 : Nat) : Int) + 1
/-- the table behind n makings -/
def fT : Nat → Tb
  | 0 => newT
  | n + 1 => mkR (fT n) (kd n)
theorem fT_wf : ∀ n, Wf n (fT n)
  | 0 => new_wf
  | n + 1 => mkR_wf (fT_wf n) (kd n)
theorem f_ok : ∀ n, n < 12 → mkOk (fT n) (kd n) = true ∧ mkA (fT n) (kd n) = (n : Int) ∧ mkG (fT n) (kd n) = 1 := by decide +kernel
theorem f_th : ∀ n, n < 12 → ((fT (n + 1)).T.getD n th0).k = kd n ∧ (decide (((fT (n + 1)).T.getD n th0).c = 8) = decide (kd n = 1)) := by decide +kernel
theorem f_kd : ∀ n, n < 12 → ([1, 2, 3, 1, 2, 3, 1, 2, 3, 1, 2, 3] : List Int).getD n 0 = kd n := by decide +kernel
theorem f_end : mkOk (fT 12) 1 = false ∧ drOk (fT 12) 0 1 = false ∧ drOk (fT 12) 4 1 = true ∧ plc 1 (fT 12).T 12 = [0, 3, 6, 9] := by decide +kernel
theorem f_u : mkOk (drR (fT 12) 4 1) 1 = false ∧ mkOk (drR (fT 12) 4 1) 4 = false ∧ mkOk (drR (fT 12) 4 1) 0 = false ∧ mkOk (drR (fT 12) 4 1) 2 = true ∧ mkA (drR (fT 12) 4 1) 2 = 4 ∧ mkG (drR (fT 12) 4 1) 2 = 2 ∧ isThere (drR (fT 12) 4 1).T 4 = false ∧ isThere (drR (fT 12) 4 1).T 12 = false ∧ isThere (drR (fT 12) 4 1).T (-1) = false ∧ Slo.hasM (drR (fT 12) 4 1).G (drR (fT 12) 4 1).I 4 1 = false := by decide +kernel
theorem f_v : Slo.hasM (mkR (drR (fT 12) 4 1) 2).G (mkR (drR (fT 12) 4 1) 2).I 4 2 = true ∧ fnA (mkR (drR (fT 12) 4 1) 2) 4 2 = 4 := by decide +kernel
theorem f_fn : fnA (drR (fT 12) 4 1) 4 1 = fnA (drR (fT 12) 4 1) 4 1 ∧ (drW (fT 12) 0 1).length = 0 ∧ (drW (fT 12) 4 1).length = 0 := by decide +kernel
theorem f_mk : mkA (fT 12) 1 = 0 ∧ mkG (fT 12) 1 = 0 ∧ mkA (drR (fT 12) 4 1) 1 = 0 ∧ mkG (drR (fT 12) 4 1) 1 = 0 ∧ mkA (drR (fT 12) 4 1) 4 = 0 ∧ mkG (drR (fT 12) 4 1) 4 = 0 ∧ mkA (drR (fT 12) 4 1) 0 = 0 ∧ mkG (drR (fT 12) 4 1) 0 = 0 := by decide +kernel
end Go.Proofs.Ytcncpefdjgnhdaa
