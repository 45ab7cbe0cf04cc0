/-
  What the document's own HasSlot hands back: the same as Has.
-/
import Derived.Test.YtcncpefdjgnhdaaSloFrees
namespace Go.Proofs.Ytcncpefdjgnhdaa.Slo
open Go.ChangeShapes Go.WideShapes Go.ChangeAt Go.RowKit Go.Maps
attribute [local go_sem ↓] Go.wp_at_zero Go.wp_at_succ

theorem hasM_low {gs : List Int} {bs : List Bool} {a g : Int} (h : a < 0) : hasM gs bs a g = false := by
  unfold hasM hasB; simp; omega
theorem hasM_high {gs : List Int} {bs : List Bool} {a g : Int} (h : (gs.length : Int) ≤ a ∨ (bs.length : Int) ≤ a) : hasM gs bs a g = false := by
  unfold hasM hasB; simp; omega
theorem hasM_in {gs : List Int} {bs : List Bool} {k : Nat} {g : Int} (hg : k < gs.length) (hb : k < bs.length) : hasM gs bs k g = (bs[k] && decide (gs[k] = g)) := by
  unfold hasM hasB
  rw [Bool.eq_iff_iff]
  simp [hg, hb]
  omega
theorem below_drewN {B n : Nat} {a w : World} (h : Below B a w) : Below B a (w.drewN n) := ⟨h.os, h.tape, h.output, h.size, h.block⟩
theorem ret_bool {a b : Bool} (h : a = b) : Ending.returned (.bool a) = .returned (.bool b) := by rw [h]

set_option maxHeartbeats 400000 in
theorem hasSlot_any (gp ip : Option Addr) (gc ic : Nat) (gs : List Int) (bs : List Bool) (a g : Int) (w : World) (hg : Rd w (Value.int .i64) gp gc gs) (hi : Rd w Value.bool ip ic bs) (hgl : gs.length ≤ 64) (hbl : bs.length ≤ 64) :
    Calls Try.prog 55 #[.agg #[.slice gp gs.length gc, .slice ip bs.length ic], .agg #[.int .i64 a, .int .i64 g]] w fun e w' => e = .returned (.bool (hasM gs bs a g)) ∧ Below w.heap.size w w' := by
  by_cases h0 : a < 0
  · have hd : decide (0 ≤ a) = false := by simp; omega
    have HM : Hid (hasM gs bs a g = false) := hasM_low h0
    clear h0
    go_enter Try.func55, Try.ntmps55
    go_wp2
    go_quiet (fail)
    go_wp2
    go_ret
    exact ⟨ret_bool HM.out.symm, below_drewN (((Below.refl _ _).alloc (Nat.le_refl _) _).alloc (by simp) _)⟩
  · obtain ⟨k, rfl⟩ : ∃ k : Nat, a = k := ⟨a.toNat, by omega⟩
    have d0 : decide ((0 : Int) ≤ (k : Int)) = true := by simp
    clear h0
    by_cases hkb : k < bs.length
    · have d1 : decide ((k : Int) < (bs.length : Int)) = true := by simp [hkb]
      by_cases hkg : k < gs.length
      · have d2 : decide ((k : Int) < (gs.length : Int)) = true := by simp [hkg]
        have z0 : (0 : Int) ≤ (k : Int) := by omega
        have z1 : (k : Int) < (bs.length : Int) := by omega
        have z2 : (k : Int) < (gs.length : Int) := by omega
        obtain ⟨b, o, rfl, hb, hc⟩ := hg.some (by omega)
        obtain ⟨b', o', rfl, hb', hc'⟩ := hi.some (by omega)
        have hck := hc k hkg
        have hck' := hc' k hkb
        have hm := hasM_in (g := g) hkg hkb
        clear hc hc'
        cases hx : bs[k] with
        | false =>
          rw [hx] at hck' hm
          have HM : Hid (hasM gs bs k g = false) := (by simpa using hm : hasM gs bs k g = false)
          clear hx hm hck
          go_enter Try.func55, Try.ntmps55
          go_wp2
          go_quiet (fail)
          go_wp2
          go_ret
          exact ⟨ret_bool HM.out.symm, below_drewN (((Below.refl _ _).alloc (Nat.le_refl _) _).alloc (by simp) _)⟩
        | true =>
          rw [hx] at hck' hm
          have HM : Hid (hasM gs bs k g = decide (gs[k] = g)) := (by simpa using hm : hasM gs bs k g = decide (gs[k] = g))
          clear hx hm
          generalize gs[k] = y at *
          by_cases hy : y = g
          · subst hy
            have HM : Hid (hasM gs bs k y = true) := (by have := HM.out; simpa using this : hasM gs bs k y = true)
            go_enter Try.func55, Try.ntmps55
            go_wp2
            go_quiet (fail)
            go_wp2
            go_ret
            exact ⟨ret_bool HM.out.symm, below_drewN (((Below.refl _ _).alloc (Nat.le_refl _) _).alloc (by simp) _)⟩
          · have HM : Hid (hasM gs bs k g = false) := (by have := HM.out; simpa [hy] using this : hasM gs bs k g = false)
            have d3 : (y == g) = false := by simpa using hy
            go_enter Try.func55, Try.ntmps55
            go_wp2
            go_quiet (fail)
            go_wp2
            go_ret
            exact ⟨ret_bool HM.out.symm, below_drewN (((Below.refl _ _).alloc (Nat.le_refl _) _).alloc (by simp) _)⟩
      · have d2 : decide (k < gs.length) = false := by simpa using hkg
        have HM : Hid (hasM gs bs k g = false) := hasM_high (by omega)
        go_enter Try.func55, Try.ntmps55
        go_wp2
        go_quiet (fail)
        go_wp2
        go_ret
        exact ⟨ret_bool HM.out.symm, below_drewN (((Below.refl _ _).alloc (Nat.le_refl _) _).alloc (by simp) _)⟩
    · have d1 : decide (k < bs.length) = false := by simpa using hkb
      have HM : Hid (hasM gs bs k g = false) := hasM_high (by omega)
      go_enter Try.func55, Try.ntmps55
      go_wp2
      go_quiet (fail)
      go_wp2
      go_ret
      exact ⟨ret_bool HM.out.symm, below_drewN (((Below.refl _ _).alloc (Nat.le_refl _) _).alloc (by simp) _)⟩

end Go.Proofs.Ytcncpefdjgnhdaa.Slo
