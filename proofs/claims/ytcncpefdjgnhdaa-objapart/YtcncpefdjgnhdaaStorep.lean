/-
  Stores of a part; the cells of a thing, carried on.
-/
import Derived.Test.YtcncpefdjgnhdaaStore
namespace Go.Proofs.Ytcncpefdjgnhdaa
open Go.ChangeShapes Go.WideShapes Go.ChangeAt Go.RowKit
attribute [local go_sem ↓] Go.wp_at_zero Go.wp_at_succ

theorem At10.below {w w' : World} {b o : Nat} {X : Tc} (h : At10 w b o X) (hb : Below w.heap.size w w') (hl : b < w.heap.size) : At10 w' b o X :=
  ⟨(hb.cell (p := ⟨b, _, none⟩) hl).trans h.c0, (hb.cell (p := ⟨b, _, none⟩) hl).trans h.c1, (hb.cell (p := ⟨b, _, none⟩) hl).trans h.c2, (hb.cell (p := ⟨b, _, none⟩) hl).trans h.c3, (hb.cell (p := ⟨b, _, none⟩) hl).trans h.c4, (hb.cell (p := ⟨b, _, none⟩) hl).trans h.c5, (hb.cell (p := ⟨b, _, none⟩) hl).trans h.c6, (hb.cell (p := ⟨b, _, none⟩) hl).trans h.c7, (hb.cell (p := ⟨b, _, none⟩) hl).trans h.c8, (hb.cell (p := ⟨b, _, none⟩) hl).trans h.c9⟩
theorem isThere_yes {l : List Th} {p : Int} (h : isThere l p = true) : ∃ k : Nat, p = k ∧ k < 12 ∧ (l.getD k th0).k ≠ 0 := by
  unfold isThere at h
  simp only [decide_eq_true_eq] at h
  exact ⟨p.toNat, by omega, by omega, h.2.2⟩
theorem putT_no {t : Th} (h : turnedT t = false) (c e : Int) (L W : List Int) (b : Nat) (F : List Wt) : putT t c e L W b F = { t with c := c, h := e, L := L, W := W, b := b, F := F, s := sealOf { t with c := c, h := e, L := L, W := W, b := b, F := F } } := by
  unfold putT
  rw [h]
  rfl
theorem putT_yes {t : Th} (h : turnedT t = true) (c e : Int) (L W : List Int) (b : Nat) (F : List Wt) : putT t c e L W b F = { t with c := c, h := e, L := L, W := W, b := b, F := F, s := comp (sealOf { t with c := c, h := e, L := L, W := W, b := b, F := F }) } := by
  unfold putT
  rw [if_pos h]
  simp only [turnT, sealedT]
theorem sealOf_any (t : Th) (s s' : Nat) : sealOf { t with s := s } = sealOf { t with s := s' } := rfl
theorem size40p : (Try.prog.info? 40).map (·.size) = some 2 := by kernel_rfl
theorem size43p : (Try.prog.info? 43).map (·.size) = some 2 := by kernel_rfl
theorem size47p : (Try.prog.info? 47).map (·.size) = some 2 := by kernel_rfl
theorem size27p : (Try.prog.info? 27).map (·.size) = some 2 := by kernel_rfl
theorem size32p : (Try.prog.info? 32).map (·.size) = some 2 := by kernel_rfl
theorem size38p : (Try.prog.info? 38).map (·.size) = some 2 := by kernel_rfl
end Go.Proofs.Ytcncpefdjgnhdaa
