/-
  Where a machine is behind a Rep, by the program.
-/
import Derived.Test.YtonholadabebbaaVmoved
namespace Go.Proofs.Ytonholadabebbaa
open Go.ChangeShapes Go.WideShapes Go.ChangeAt Go.RowKit
attribute [local go_sem ↓] Go.wp_at_zero Go.wp_at_succ

theorem own_other {α : Type} {E : Elt α} {w w' : World} {base g : Nat} {e t : TypeId} {p : Option Addr} {c : Nat} {l : List α} {cs : Array Value} {fr : Nat × Nat} (h : Own E w base e p c l) (hg : w.heap[g]? = some (.cells cs t fr)) (ht : t ≠ e) (hw : ∀ b, b ≠ g → w'.heap[b]? = w.heap[b]?) : Own E w' base e p c l := by
  refine ⟨h.1, ?_⟩
  rcases h.2 with hn | ⟨g1, cap, cur, h1, h2, h3, h4⟩
  · exact .inl hn
  · refine .inr ⟨g1, cap, cur, h1, h2, (hw g1 ?_).trans h3, h4⟩
    rintro rfl
    rw [hg] at h3
    simp only [Option.some.injEq, Obj.cells.injEq] at h3
    exact ht h3.2.1
theorem Stays.trans {a b c : World} {p : Option Addr} (h : Stays a b p) (k : Stays b c p) (hs : a.heap.size ≤ b.heap.size) : Stays a c p := fun i hi hn => (k i (by omega) hn).trans (h i hi hn)
theorem stays_of_below {a b : World} {p : Option Addr} (h : Below a.heap.size a b) : Stays a b p := fun i hi _ => h.block i hi
/-- what follows of an append to what is repeated: the machine's variable at block r, new since w, what is told at r + 2 -/
theorem rep9 {w W w7 : World} {pc : Int} {mem : List Int} {q p7 : Option Addr} {k d c7 base : Nat} {R RL : List Rp} {Z : Array Value} {kk : Nat} (hm : mem.length = 8) (oR : Own eRp w base 79 q d R) (hbz : base ≤ w.heap.size)
    (hB : Below w.heap.size w W) (h3 : W.heap[w.heap.size]? = some (.cells (mcell pc mem q k d false) 63 (0, 0))) (h4 : W.heap[w.heap.size + 1 + 1]? = some (.cells Z 63 (0, 0)))
    (b7 : Below base W w7) (st7 : Stays W w7 q) (o7 : Own eRp w7 base 79 p7 c7 RL) :
    Mc w7 w.heap.size pc mem q k d false ∧ w7.heap[w.heap.size + 1 + 1]? = some (.cells Z 63 (0, 0)) ∧ (w7.setCell ⟨w.heap.size, 9, none⟩ (.slice p7 kk c7)).heap[w.heap.size + 1 + 1]? = some (.cells Z 63 (0, 0)) ∧
    ∀ cs, Own eRp ((w7.setCell ⟨w.heap.size, 9, none⟩ (.slice p7 kk c7)).setRow (w.heap.size + 1 + 1) cs) base 79 p7 c7 RL ∧ Below base w ((w7.setCell ⟨w.heap.size, 9, none⟩ (.slice p7 kk c7)).setRow (w.heap.size + 1 + 1) cs) ∧ Stays w ((w7.setCell ⟨w.heap.size, 9, none⟩ (.slice p7 kk c7)).setRow (w.heap.size + 1 + 1) cs) q := by
  have hne : ∀ i, w.heap.size ≤ i → ∀ g, q = some ⟨g, 0, none⟩ → i ≠ g := fun i hi g e => by
    have := (own_blk oR g e).2
    omega
  have hz3 := lt_of_block h3
  have hz4 := lt_of_block h4
  have k3 : w7.heap[w.heap.size]? = _ := (st7 _ hz3 (hne _ (Nat.le_refl _))).trans h3
  have k4 : w7.heap[w.heap.size + 1 + 1]? = _ := (st7 _ hz4 (hne _ (by omega))).trans h4
  have k5 : (w7.setCell ⟨w.heap.size, 9, none⟩ (.slice p7 kk c7)).heap[w.heap.size + 1 + 1]? = _ := (heap_setCell_other _ _ _ _ (by simp <;> omega)).trans k4
  refine ⟨⟨k3, hm⟩, k4, k5, fun cs => ⟨?_, ?_, ?_⟩⟩
  · exact own_other (own_other o7 k3 (by decide) (fun b hb => heap_setCell_other _ _ _ _ (by simpa using hb))) k5 (by decide) (fun b hb => setRow_other _ _ _ _ hb)
  · exact below_setRow (((hB.mono hbz).trans b7).setCell (by simpa using hbz) _) (by omega) _
  · intro b hb hn
    refine (setRow_other _ _ _ _ (by omega)).trans ((heap_setCell_other _ _ _ _ (by simp; omega)).trans ((st7 b ?_ hn).trans (hB.block b hb)))
    exact Nat.lt_of_lt_of_le hb hB.size
end Go.Proofs.Ytonholadabebbaa
