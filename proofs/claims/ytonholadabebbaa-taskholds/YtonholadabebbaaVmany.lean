/-
  Where a machine is behind an instruction, by the program, whichever it is.
-/
import Derived.Test.YtonholadabebbaaVrept
import Derived.Test.YtonholadabebbaaVreck
import Derived.Deep.MidRow
namespace Go.Proofs.Ytonholadabebbaa
open Go.ChangeShapes Go.WideShapes Go.ChangeAt Go.RowKit
attribute [local go_sem ↓] Go.wp_at_zero Go.wp_at_succ

/-- the memories are others -/
theorem eight {m : List Int} (h : m.length = 8) : ∃ a b c d e f g i, m = [a, b, c, d, e, f, g, i] := by
  match m, h with
  | [a, b, c, d, e, f, g, i], _ => exact ⟨a, b, c, d, e, f, g, i, rfl⟩
theorem Mc.mems {w : World} {b : Nat} {pc : Int} {mem mem' : List Int} {q : Option Addr} {k d : Nat} {ov : Bool} (h : Mc w b pc mem q k d ov) (hm : mem'.length = 8) : Mc (w.setCells b 1 (cI mem').toList) b pc mem' q k d ov := by
  obtain ⟨a0, a1, a2, a3, a4, a5, a6, a7, rfl⟩ := eight hm
  obtain ⟨c0, c1, c2, c3, c4, c5, c6, c7, rfl⟩ := eight h.len
  exact (((((((h.sm (j := 0) (by decide) a0).sm (j := 1) (by decide) a1).sm (j := 2) (by decide) a2).sm (j := 3) (by decide) a3).sm (j := 4) (by decide) a4).sm (j := 5) (by decide) a5).sm (j := 6) (by decide) a6).sm (j := 7) (by decide) a7
theorem setCells_other {b : Nat} : ∀ (vs : List Value) (w : World) (o : Nat) {g : Nat}, g ≠ b → (w.setCells b o vs).heap[g]? = w.heap[g]?
  | [], _, _, _, _ => rfl
  | v :: r, w, o, g, h => by
    rw [World.setCells]
    exact (setCells_other r _ _ h).trans (heap_setCell_other _ _ _ _ (by simpa using h))
theorem setCells_below {b B : Nat} {w0 : World} (hB : B ≤ b) : ∀ (vs : List Value) (w : World) (o : Nat), Below B w0 w → Below B w0 (w.setCells b o vs)
  | [], _, _, h => h
  | v :: r, w, o, h => by
    rw [World.setCells]
    exact setCells_below hB r _ _ (h.setCell hB _)
theorem setCells_size {b : Nat} : ∀ (vs : List Value) (w : World) (o : Nat), (w.setCells b o vs).heap.size = w.heap.size
  | [], _, _ => rfl
  | v :: r, w, o => by
    rw [World.setCells, setCells_size r]
    simp [World.setCell]
theorem Mc.range {w : World} {b : Nat} {pc : Int} {mem : List Int} {q : Option Addr} {k d : Nat} {ov : Bool} (h : Mc w b pc mem q k d ov) : w.rangeAt b 1 (cI mem).toList := by
  intro j v hv
  simp only [cI, List.getElem?_map] at hv
  cases hj : mem[j]? with
  | none => simp [hj] at hv
  | some V =>
    simp [hj] at hv
    subst hv
    obtain ⟨hl, rfl⟩ := List.getElem?_eq_some_iff.1 hj
    exact h.cm (by rw [← h.len]; exact hl)
theorem Mc.there {w : World} {b : Nat} {pc : Int} {mem : List Int} {q : Option Addr} {k d : Nat} {ov : Bool} (h : Mc w b pc mem q k d ov) : w.there b 1 8 := by
  intro j hj
  exact ⟨by rw [h.cm hj]; rfl, h.fr _⟩
end Go.Proofs.Ytonholadabebbaa
