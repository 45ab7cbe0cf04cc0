/-
  What a call made is as it was, whatever else turned.
-/
import Derived.Test.YtcncpefdjgnhdaaMaken
namespace Go.Proofs.Ytcncpefdjgnhdaa
open Go.ChangeShapes Go.WideShapes Go.ChangeAt Go.RowKit
attribute [local go_sem ↓] Go.wp_at_zero Go.wp_at_succ

/-- the blocks from B on that there were in w3 are as they were -/
def Kept (B : Nat) (w3 w : World) : Prop := w3.heap.size ≤ w.heap.size ∧ ∀ b, B ≤ b → b < w3.heap.size → w.heap[b]? = w3.heap[b]?
theorem Kept.refl (B : Nat) (w : World) : Kept B w w := ⟨Nat.le_refl _, fun _ _ _ => rfl⟩
theorem Kept.below {B : Nat} {w3 w w' : World} (h : Kept B w3 w) (hb : Below w.heap.size w w') : Kept B w3 w' := ⟨Nat.le_trans h.1 hb.size, fun b h1 h2 => (hb.block b (Nat.lt_of_lt_of_le h2 h.1)).trans (h.2 b h1 h2)⟩
theorem Kept.kp {B g : Nat} {w3 w w' : World} (h : Kept B w3 w) (hk : Kp g w w') (hg : g < B ∨ w3.heap.size ≤ g) : Kept B w3 w' := ⟨Nat.le_trans h.1 hk.size, fun b h1 h2 => (hk.block b (Nat.lt_of_lt_of_le h2 h.1) (by intro e; cases e; omega)).trans (h.2 b h1 h2)⟩
theorem Ow.kept {w3 w' : World} {B g : Nat} {y : Tw} {xs : List Tc} {T : Tb} (h : Ow w3 B g y xs T) (hk : Kept B w3 w') : Tr w' y T := h.mid hk.2
theorem Kept.size {B : Nat} {w3 w : World} (h : Kept B w3 w) : w3.heap.size ≤ w.heap.size := h.1
end Go.Proofs.Ytcncpefdjgnhdaa
