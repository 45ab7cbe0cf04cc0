/-
  What is repeated is looked at, by the program.
-/
import Derived.Test.YtonholadabebbaaVmovedr
namespace Go.Proofs.Ytonholadabebbaa
open Go.ChangeShapes Go.WideShapes Go.ChangeAt Go.RowKit
attribute [local go_sem ↓] Go.wp_at_zero Go.wp_at_succ

theorem own_left {w : World} {base : Nat} {p : Option Addr} {c : Nat} {L : List Rp} {A B C : Int} {m : Nat} (hm : L.length = m) (h : Own eRp w base 79 p c (L ++ [(A, B, C)])) :
    ∃ b cs, p = some ⟨b, 0, none⟩ ∧ base ≤ b ∧ b < w.heap.size ∧ w.heap[b]? = some (.cells cs 79 (0, 0)) ∧ w.cell? ⟨b, m * 3, none⟩ = some (.int .i64 A) ∧ w.cell? ⟨b, m * 3 + 1, none⟩ = some (.int .i64 B) ∧ w.cell? ⟨b, m * 3 + 2, none⟩ = some (.int .i64 C) ∧ ∀ v, Own eRp (w.setCell ⟨b, m * 3 + 2, none⟩ (.int .i64 v)) base 79 p c (L ++ [(A, B, v)]) := by
  have hlen : (L ++ [(A, B, C)]).length = m + 1 := by simp [hm]
  obtain ⟨b', o', e', _, a0, a1, a2⟩ := (own_rd h).rep m (by omega)
  have hx : (L ++ [(A, B, C)])[m]'(by omega) = (A, B, C) := by
    rw [List.getElem_append_right (by omega)]
    simp [hm]
  rw [hx] at a0 a1 a2
  rcases h.2 with ⟨h1, h2⟩ | ⟨g, cap, cur, h1, h2, h3, h4, h5, h6, h7⟩
  · simp only [Value.slice.injEq] at h1
    omega
  · simp only [Value.slice.injEq, true_and] at h1
    obtain ⟨rfl, rfl⟩ := h1
    obtain ⟨rfl, rfl⟩ : g = b' ∧ 0 = o' := by simpa using e'
    clear e'
    simp only [Nat.zero_add] at a0 a1 a2
    refine ⟨g, cur, rfl, h2, (Array.getElem?_eq_some_iff.1 h3).1, h3, a0, a1, a2, fun v => ?_⟩
    unfold Own
    have hl2 : (L ++ [(A, B, v)]).length = (L ++ [(A, B, C)]).length := by simp
    rw [hl2]
    refine ⟨by rw [fl_length, hl2], .inr ⟨g, c, cur.setIfInBounds (m * 3 + 2) (.int .i64 v), rfl, h2, ?_, by simpa using h4, h5, by simpa using h6, ?_⟩⟩
    · rw [setCell_eq_setRow w g _ _ _ _ _ h3]
      exact setRow_heap w g _ _ _ _ h3
    · have e1 : fl eRp (L ++ [(A, B, v)]) = (fl eRp (L ++ [(A, B, C)])).set (m * 3 + 2) (.int .i64 v) := by
        rw [fl_append, fl_append, List.set_append_right _ _ (by rw [fl_length, hm]; show m * 3 ≤ _; omega), fl_length, hm]
        show _ = fl eRp L ++ List.set (fl eRp [(A, B, C)]) (m * 3 + 2 - m * 3) _
        rw [show m * 3 + 2 - m * 3 = 2 by omega]
        rfl
      rw [e1, ← h7, Array.toList_setIfInBounds, List.take_set]
/-- on the way of the look at what is repeated: the machine at block r, what is told at r + 1 -/
structure Rw (w : World) (base r : Nat) (wr : World) (pc : Int) (mem : List Int) (q : Option Addr) (k d : Nat) (ov : Bool) (RL : List Rp) : Prop where
  M : Mc wr r pc mem q k d ov
  z : ∃ cs, cs.size = 11 ∧ wr.heap[r + 1]? = some (.cells cs 63 (0, 0))
  o : Own eRp wr base 79 q d RL
  B : Below base w wr
  S : Stays w wr q
  r : w.heap.size ≤ r ∧ base ≤ w.heap.size
section
variable {w wr : World} {base r : Nat} {pc : Int} {mem : List Int} {q : Option Addr} {k d : Nat} {ov : Bool} {RL : List Rp}
theorem Rw.draws (h : Rw w base r wr pc mem q k d ov RL) (n : Nat) : Rw w base r (wr.drewN n) pc mem q k d ov RL := by
  have b : Below wr.heap.size wr (wr.drewN n) := bel_draws (Below.refl _ _) n
  obtain ⟨cs, h1, h2⟩ := h.z
  exact ⟨h.M.below b, ⟨cs, h1, (b.block _ (lt_of_block h2)).trans h2⟩, own_below h.o b, h.B.trans (b.mono (Nat.le_trans h.r.2 (Nat.le_trans h.r.1 (Nat.le_of_lt h.M.lt)))), fun i hi hn => (b.block i (Nat.lt_of_lt_of_le hi (Nat.le_trans h.r.1 (Nat.le_of_lt h.M.lt)))).trans (h.S i hi hn), h.r⟩
theorem Rw.s0 (h : Rw w base r wr pc mem q k d ov RL) (v : Int) : Rw w base r (wr.setCell ⟨r, 0, none⟩ (.int .i64 v)) v mem q k d ov RL := by
  obtain ⟨cs, h1, h2⟩ := h.z
  exact ⟨h.M.s0 v, ⟨cs, h1, (heap_setCell_other _ _ _ _ (by simp)).trans h2⟩, own_other h.o h.M.at_ (by decide) (fun b hb => heap_setCell_other _ _ _ _ (by simpa using hb)), h.B.setCell (Nat.le_trans h.r.2 h.r.1) _, fun i hi hn => (heap_setCell_other _ _ _ _ (by have := h.r.1; simp; omega)).trans (h.S i hi hn), h.r⟩
theorem Rw.s9 (h : Rw w base r wr pc mem q k d ov RL) {k' : Nat} {RL' : List Rp} (ho : Own eRp wr base 79 q d RL') : Rw w base r (wr.setCell ⟨r, 9, none⟩ (.slice q k' d)) pc mem q k' d ov RL' := by
  obtain ⟨cs, h1, h2⟩ := h.z
  exact ⟨h.M.s9 q k' d, ⟨cs, h1, (heap_setCell_other _ _ _ _ (by simp)).trans h2⟩, own_other ho h.M.at_ (by decide) (fun b hb => heap_setCell_other _ _ _ _ (by simpa using hb)), h.B.setCell (Nat.le_trans h.r.2 h.r.1) _, fun i hi hn => (heap_setCell_other _ _ _ _ (by have := h.r.1; simp; omega)).trans (h.S i hi hn), h.r⟩
/-- a store into what is repeated -/
theorem Rw.row {b j : Nat} {v : Value} {cs : Array Value} {RL' : List Rp} (h : Rw w base r wr pc mem (some ⟨b, 0, none⟩) k d ov RL) (hb : base ≤ b) (hrow : wr.heap[b]? = some (.cells cs 79 (0, 0))) (ho : Own eRp (wr.setCell ⟨b, j, none⟩ v) base 79 (some ⟨b, 0, none⟩) d RL') : Rw w base r (wr.setCell ⟨b, j, none⟩ v) pc mem (some ⟨b, 0, none⟩) k d ov RL' := by
  obtain ⟨zs, h1, h2⟩ := h.z
  have n1 : r ≠ b := by
    rintro rfl
    have := h.M.at_
    rw [hrow] at this
    simp at this
  have n2 : r + 1 ≠ b := by
    rintro rfl
    rw [hrow] at h2
    simp at h2
  exact ⟨h.M.block (heap_setCell_other _ _ _ _ (by simpa using n1)), ⟨zs, h1, (heap_setCell_other _ _ _ _ (by simpa using n2)).trans h2⟩, ho, h.B.setCell hb _, fun i hi hn => (heap_setCell_other _ _ _ _ (by simpa using hn b rfl)).trans (h.S i hi hn), h.r⟩
theorem Rw.fin (h : Rw w base r wr pc mem q k d ov RL) (cs : Array Value) : Own eRp (wr.setRow (r + 1) cs) base 79 q d RL ∧ Below base w (wr.setRow (r + 1) cs) ∧ Stays w (wr.setRow (r + 1) cs) q := by
  obtain ⟨zs, h1, h2⟩ := h.z
  exact ⟨own_other h.o h2 (by decide) (fun b hb => setRow_other _ _ _ _ hb), below_setRow h.B (by have := h.r; omega) _, fun i hi hn => (setRow_other _ _ _ _ (by have := h.r; omega)).trans (h.S i hi hn)⟩
end
end Go.Proofs.Ytonholadabebbaa
