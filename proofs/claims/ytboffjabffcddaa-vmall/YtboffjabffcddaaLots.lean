/-
  Rows of programs, read.
-/
import Derived.Test.YtboffjabffcddaaLowt
namespace Go.Proofs.Ytboffjabffcddaa
open Go.ChangeShapes Go.WideShapes Go.ChangeAt Go.RowKit
attribute [local go_sem ↓] Go.wp_at_zero Go.wp_at_succ

/-- At b lies a row of slices that read as these programs. -/
def Rws (w : World) (b : Nat) (P : List (List In)) : Prop := b < w.heap.size ∧ ∀ k, (hk : k < P.length) → ∃ q d, w.cell? ⟨b, k, none⟩ = some (.slice q P[k].length d) ∧ Rd eIn w q d P[k]
theorem Rws.below {w w' : World} {b : Nat} {P : List (List In)} (h : Rws w b P) (hb : Below w.heap.size w w') : Rws w' b P :=
  ⟨Nat.lt_of_lt_of_le h.1 hb.size, fun k hk => by
    obtain ⟨q, d, h1, h2⟩ := h.2 k hk
    exact ⟨q, d, (hb.cell (p := ⟨b, k, none⟩) h.1).trans h1, h2.below hb⟩⟩
theorem Rws.two {w : World} {b : Nat} {t : TypeId} {fr : Nat × Nat} {q1 q2 : Option Addr} {n1 d1 n2 d2 : Nat} {l1 l2 : List In} (h : w.heap[b]? = some (.cells #[.slice q1 n1 d1, .slice q2 n2 d2] t fr)) (h1 : Rd eIn w q1 d1 l1) (e1 : l1.length = n1) (h2 : Rd eIn w q2 d2 l2) (e2 : l2.length = n2) : Rws w b [l1, l2] := by
  subst e1 e2
  refine ⟨lt_of_block h, fun k hk => ?_⟩
  have : k = 0 ∨ k = 1 := by simp at hk; omega
  rcases this with rfl | rfl
  · exact ⟨q1, d1, by rw [cell_of_row _ _ _ _ _ _ h]; rfl, h1⟩
  · exact ⟨q2, d2, by rw [cell_of_row _ _ _ _ _ _ h]; rfl, h2⟩
theorem Rws.three {w : World} {b : Nat} {t : TypeId} {fr : Nat × Nat} {q1 q2 q3 : Option Addr} {n1 d1 n2 d2 n3 d3 : Nat} {l1 l2 l3 : List In} (h : w.heap[b]? = some (.cells #[.slice q1 n1 d1, .slice q2 n2 d2, .slice q3 n3 d3] t fr)) (h1 : Rd eIn w q1 d1 l1) (e1 : l1.length = n1) (h2 : Rd eIn w q2 d2 l2) (e2 : l2.length = n2) (h3 : Rd eIn w q3 d3 l3) (e3 : l3.length = n3) : Rws w b [l1, l2, l3] := by
  subst e1 e2 e3
  refine ⟨lt_of_block h, fun k hk => ?_⟩
  have : k = 0 ∨ k = 1 ∨ k = 2 := by simp at hk; omega
  rcases this with rfl | rfl | rfl
  · exact ⟨q1, d1, by rw [cell_of_row _ _ _ _ _ _ h]; rfl, h1⟩
  · exact ⟨q2, d2, by rw [cell_of_row _ _ _ _ _ _ h]; rfl, h2⟩
  · exact ⟨q3, d3, by rw [cell_of_row _ _ _ _ _ _ h]; rfl, h3⟩
end Go.Proofs.Ytboffjabffcddaa
