/-
  What same hands back where both read alike: true.
-/
import Derived.Test.YtcncpefdjgnhdaaSloFreeRef
namespace Go.Proofs.Ytcncpefdjgnhdaa.Slo
open Go.ChangeShapes Go.WideShapes Go.ChangeAt Go.RowKit Go.Maps
attribute [local go_sem ↓] Go.wp_at_zero Go.wp_at_succ

set_option maxHeartbeats 400000 in
theorem sameSlots_eq (gp ip gp' ip' : Option Addr) (gc ic gc' ic' : Nat) (gs : List Int) (bs : List Bool) (w : World) (hg : Rd w (Value.int .i64) gp gc gs) (hi : Rd w Value.bool ip ic bs) (hg' : Rd w (Value.int .i64) gp' gc' gs) (hi' : Rd w Value.bool ip' ic' bs) (hgl : gs.length ≤ 64) (hbl : bs.length ≤ 64) :
    Calls Try.prog 56 #[.agg #[.slice gp gs.length gc, .slice ip bs.length ic], .agg #[.slice gp' gs.length gc', .slice ip' bs.length ic']] w fun e w' => e = .returned (.bool true) ∧ Below w.heap.size w w' := by
  go_enter Try.func56, Try.ntmps56
  go_wp2
  have hWb : Below w.heap.size w ((w.alloc (Obj.cells #[Value.slice gp gs.length gc, Value.slice ip bs.length ic] 32)).alloc (Obj.cells #[Value.slice gp' gs.length gc', Value.slice ip' bs.length ic'] 32)) := ((Below.refl _ _).alloc (Nat.le_refl _) _).alloc (by simp) _
  have hc0 : ((w.alloc (Obj.cells #[Value.slice gp gs.length gc, Value.slice ip bs.length ic] 32)).alloc (Obj.cells #[Value.slice gp' gs.length gc', Value.slice ip' bs.length ic'] 32)).cell? ⟨w.heap.size, 0, none⟩ = some (.slice gp gs.length gc) := by simp [go_sem]
  have hc1 : ((w.alloc (Obj.cells #[Value.slice gp gs.length gc, Value.slice ip bs.length ic] 32)).alloc (Obj.cells #[Value.slice gp' gs.length gc', Value.slice ip' bs.length ic'] 32)).cell? ⟨w.heap.size, 1, none⟩ = some (.slice ip bs.length ic) := by simp [go_sem]
  have hc2 : ((w.alloc (Obj.cells #[Value.slice gp gs.length gc, Value.slice ip bs.length ic] 32)).alloc (Obj.cells #[Value.slice gp' gs.length gc', Value.slice ip' bs.length ic'] 32)).cell? ⟨w.heap.size + 1, 0, none⟩ = some (.slice gp' gs.length gc') := by simp [go_sem]
  have hc3 : ((w.alloc (Obj.cells #[Value.slice gp gs.length gc, Value.slice ip bs.length ic] 32)).alloc (Obj.cells #[Value.slice gp' gs.length gc', Value.slice ip' bs.length ic'] 32)).cell? ⟨w.heap.size + 1, 1, none⟩ = some (.slice ip' bs.length ic') := by simp [go_sem]
  generalize ((w.alloc (Obj.cells #[Value.slice gp gs.length gc, Value.slice ip bs.length ic] 32)).alloc (Obj.cells #[Value.slice gp' gs.length gc', Value.slice ip' bs.length ic'] 32)) = W at *
  replace hg := hg.below hWb
  replace hi := hi.below hWb
  replace hg' := hg'.below hWb
  replace hi' := hi'.below hWb
  go_loopw [5] (fun i wr => ∃ k : Nat, k ≤ gs.length ∧ i = .int .i64 k ∧ ∃ nq, wr = W.drewN nq) (fun i _ => gs.length - (intOf i).toNat)
  case atStart => exact ⟨0, Nat.zero_le _, rfl, 0, rfl⟩
  case round =>
    obtain ⟨k, hk, rfl, nq, rfl⟩ := hrel
    by_cases hlt : k < gs.length
    · have z0 : (0 : Int) ≤ (k : Int) := by omega
      have z1 : (k : Int) < (gs.length : Int) := by omega
      obtain ⟨b, o, rfl, hb, hc⟩ := hg.some (by omega)
      obtain ⟨b', o', rfl, hb', hc'⟩ := hg'.some (by omega)
      have hck := hc k hlt
      have hck' := hc' k hlt
      clear hc hc'
      generalize gs[k] = y at *
      go_wp2
      go_quiet (fail)
      go_wp2
      go_roundw
      case rel => exact ⟨k + 1, by omega, by go_num, _, rfl⟩
      case measure => simp [intOf]; omega
    · go_wp2
      go_loopw [6] (fun i wr => ∃ k : Nat, k ≤ bs.length ∧ i = .int .i64 k ∧ ∃ nq, wr = W.drewN nq) (fun i _ => bs.length - (intOf i).toNat)
      case atStart => exact ⟨0, Nat.zero_le _, rfl, _, rfl⟩
      case round =>
        obtain ⟨j, hj, rfl, nq, rfl⟩ := hrel
        by_cases hlt : j < bs.length
        · have z0 : (0 : Int) ≤ (j : Int) := by omega
          have z1 : (j : Int) < (bs.length : Int) := by omega
          obtain ⟨b, o, rfl, hb, hc⟩ := hi.some (by omega)
          obtain ⟨b', o', rfl, hb', hc'⟩ := hi'.some (by omega)
          have hck := hc j hlt
          have hck' := hc' j hlt
          clear hc hc'
          generalize bs[j] = y at *
          go_wp2
          go_quiet (fail)
          go_wp2
          go_roundw
          case rel => exact ⟨j + 1, by omega, by go_num, _, rfl⟩
          case measure => simp [intOf]; omega
        · go_wp2
          go_ret
          exact ⟨rfl, below_drewN hWb⟩

end Go.Proofs.Ytcncpefdjgnhdaa.Slo
