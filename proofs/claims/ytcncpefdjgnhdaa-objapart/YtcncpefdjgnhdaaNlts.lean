/-
  Where a row may lie.
-/
import Derived.Test.YtcncpefdjgnhdaaStore
namespace Go.Proofs.Ytcncpefdjgnhdaa
open Go.ChangeShapes Go.WideShapes Go.ChangeAt Go.RowKit
attribute [local go_sem ↓] Go.wp_at_zero Go.wp_at_succ

/-- p lies below B, or it is read nowhere -/
def Nlt (p : Option Addr) (B : Nat) : Prop := ∀ b o, p = some ⟨b, o, none⟩ → b < B
theorem Nlt.mono1 {p : Option Addr} {B C : Nat} (h : Nlt p B) (hb : B ≤ C) : Nlt p C := fun b o e => Nat.lt_of_lt_of_le (h b o e) hb
theorem Nlt.mono2 {p : Option Addr} {B g : Nat} (h : Nlt p B) (hb : B ≤ g) : Far p g := fun b o e => by have := h b o e; omega
theorem Rd.nlt {α : Type} {E : Elt α} {w : World} {p : Option Addr} {c : Nat} {l : List α} (h : Rd E w p c l) (hl : 0 < l.length) : Nlt p w.heap.size := by
  obtain ⟨b, o, e, hb, _⟩ := h.pos hl
  rintro b' o' e'
  rw [e] at e'
  cases e'
  exact hb
theorem fresh_lt (k a g c : Int) : (freshT k a g c).s < 4294967296 := by
  have h := sealOf_lt (⟨k, a, g, if k = 1 then c else 0, 0, [], [], 0, [], 0⟩ : Th)
  simpa only [freshT, sealedT] using h
theorem Ok.fresh (w : World) (k a g c : Int) (S : Nat) (hS : (freshT k a g c).s = S) : Ok w ⟨k, a, g, if k = 1 then c else 0, 0, none, 0, 0, none, 0, 0, 0, none, 0, 0, S⟩ (freshT k a g c) := by
  have e : freshT k a g c = (⟨k, a, g, if k = 1 then c else 0, 0, [], [], 0, [], S⟩ : Th) := by
    rw [← hS]
    simp only [freshT, sealedT]
  have h := Ok.nil w k a g (if k = 1 then c else 0) S (by rw [← hS]; exact fresh_lt k a g c)
  rw [e]
  exact h
end Go.Proofs.Ytcncpefdjgnhdaa
