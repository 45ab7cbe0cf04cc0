/-
  A row of instructions, the first of which are turned; a store into an own row.
-/
import Derived.Test.YtboffjabffcddaaPmath
import Derived.Test.YtboffjabffcddaaLows
namespace Go.Proofs.Ytboffjabffcddaa
open Go.ChangeShapes Go.WideShapes Go.ChangeAt Go.RowKit
attribute [local go_sem ↓] Go.wp_at_zero Go.wp_at_succ

/-- .. the first k of them -/
def mpM (l : List In) (k : Nat) : List In := (List.range l.length).map fun i => if i < k then gM (gt l i) else gt l i
theorem mpM_len (l : List In) (k : Nat) : (mpM l k).length = l.length := by simp [mpM]
theorem mpM_get {l : List In} {k i : Nat} (hi : i < l.length) : (mpM l k)[i]'(by rw [mpM_len]; exact hi) = if i < k then gM (gt l i) else gt l i := by simp [mpM]
theorem mpM_zero (l : List In) : mpM l 0 = l := by
  apply List.ext_getElem (mpM_len l 0)
  intro i h1 h2
  rw [mpM_get h2, if_neg (by omega), gt_eq h2]
theorem mpM_all (l : List In) : mpM l l.length = l.map gM := by
  apply List.ext_getElem (by rw [mpM_len, List.length_map])
  intro i h1 h2
  rw [mpM_len] at h1
  rw [mpM_get h1, if_pos h1, gt_eq h1, List.getElem_map]
theorem mpM_next {l : List In} (k : Nat) : mpM l (k + 1) = (mpM l k).set k (gM (gt l k)) := by
  apply List.ext_getElem (by simp [mpM])
  intro i h1 h2
  rw [mpM_len] at h1
  rw [mpM_get h1, List.getElem_set, mpM_get h1]
  by_cases e : k = i
  · subst e; simp
  · have : (i < k + 1) = (i < k) := by apply propext; omega
    simp [e, this]
theorem mpM_stay {l : List In} {k : Nat} (h : gM (gt l k) = gt l k) : mpM l (k + 1) = mpM l k := by
  unfold mpM
  congr 1
  funext i
  by_cases e : i = k
  · subst e; simp [h]
  · have : (i < k + 1) = (i < k) := by apply propext; omega
    simp [this]
theorem flIn_set : ∀ (l : List In) (i : Nat) (_ : i < l.length) (x : In), fl eIn (l.set i x) = ((((fl eIn l).set (i * 4) (.int .i64 x.1)).set (i * 4 + 1) (.int .i64 x.2.1)).set (i * 4 + 2) (.int .i64 x.2.2.1)).set (i * 4 + 3) (.int .i64 x.2.2.2)
  | y :: r, 0, _, x => by simp [fl, eIn]
  | y :: r, i + 1, hi, x => by
    have ih := flIn_set r i (by simpa using hi) x
    have e : (i + 1) * 4 = i * 4 + 4 := by omega
    show eIn.enc y ++ fl eIn (r.set i x) = _
    rw [ih, e]
    show _ = (((([Value.int .i64 y.1, Value.int .i64 y.2.1, Value.int .i64 y.2.2.1, Value.int .i64 y.2.2.2] ++ fl eIn r).set (i * 4 + 4) _).set (i * 4 + 4 + 1) _).set (i * 4 + 4 + 2) _).set (i * 4 + 4 + 3) _
    rw [show i * 4 + 4 + 1 = i * 4 + 1 + 4 by omega, show i * 4 + 4 + 2 = i * 4 + 2 + 4 by omega, show i * 4 + 4 + 3 = i * 4 + 3 + 4 by omega]
    rfl
theorem own_setIn {w : World} {base : Nat} {e : TypeId} {p : Option Addr} {c : Nat} {l : List In} (h : Own eIn w base e p c l) (i : Nat) (hi : i < l.length) :
    ∃ b, p = some ⟨b, 0, none⟩ ∧ base ≤ b ∧ b < w.heap.size ∧ (∀ j, w.frozen? ⟨b, j, none⟩ = false) ∧ (w.cell? ⟨b, i * 4, none⟩ = some (.int .i64 l[i].1) ∧ w.cell? ⟨b, i * 4 + 1, none⟩ = some (.int .i64 l[i].2.1) ∧ w.cell? ⟨b, i * 4 + 2, none⟩ = some (.int .i64 l[i].2.2.1) ∧ w.cell? ⟨b, i * 4 + 3, none⟩ = some (.int .i64 l[i].2.2.2)) ∧
      ∀ x : In, Own eIn ((((w.setCell ⟨b, i * 4, none⟩ (.int .i64 x.1)).setCell ⟨b, i * 4 + 1, none⟩ (.int .i64 x.2.1)).setCell ⟨b, i * 4 + 2, none⟩ (.int .i64 x.2.2.1)).setCell ⟨b, i * 4 + 3, none⟩ (.int .i64 x.2.2.2)) base e p c (l.set i x) ∧ ∀ (n : Nat) (w0 : World), n ≤ base → Below n w0 w → Below n w0 ((((w.setCell ⟨b, i * 4, none⟩ (.int .i64 x.1)).setCell ⟨b, i * 4 + 1, none⟩ (.int .i64 x.2.1)).setCell ⟨b, i * 4 + 2, none⟩ (.int .i64 x.2.2.1)).setCell ⟨b, i * 4 + 3, none⟩ (.int .i64 x.2.2.2)) := by
  have hc := (own_rd h).inst i hi
  rcases h.2 with ⟨h1, h2⟩ | ⟨g, cap, cur, h1, h2, h3, h4, h5, h6, h7⟩
  · simp only [Value.slice.injEq] at h1
    omega
  · simp only [Value.slice.injEq, true_and] at h1
    obtain ⟨rfl, rfl⟩ := h1
    obtain ⟨b', o', e', hb, c0, c1, c2, c3⟩ := hc
    cases e'
    rw [Nat.zero_add] at c0 c1 c2 c3
    refine ⟨g, rfl, h2, (Array.getElem?_eq_some_iff.1 h3).1, fun j => by simp [World.frozen?, h3], ⟨c0, c1, c2, c3⟩, fun x => ?_⟩
    rw [setCell_eq_setRow w g (i * 4) _ _ _ _ h3]
    have g1 := setRow_heap w g _ (cur.setIfInBounds (i * 4) (.int .i64 x.1)) e _ h3
    rw [setCell_eq_setRow _ g (i * 4 + 1) _ _ _ _ g1]
    have g2 := setRow_heap _ g _ ((cur.setIfInBounds (i * 4) (.int .i64 x.1)).setIfInBounds (i * 4 + 1) (.int .i64 x.2.1)) e _ g1
    rw [setCell_eq_setRow _ g (i * 4 + 2) _ _ _ _ g2]
    have g3 := setRow_heap _ g _ (((cur.setIfInBounds (i * 4) (.int .i64 x.1)).setIfInBounds (i * 4 + 1) (.int .i64 x.2.1)).setIfInBounds (i * 4 + 2) (.int .i64 x.2.2.1)) e _ g2
    rw [setCell_eq_setRow _ g (i * 4 + 3) _ _ _ _ g3]
    have g4 := setRow_heap _ g _ ((((cur.setIfInBounds (i * 4) (.int .i64 x.1)).setIfInBounds (i * 4 + 1) (.int .i64 x.2.1)).setIfInBounds (i * 4 + 2) (.int .i64 x.2.2.1)).setIfInBounds (i * 4 + 3) (.int .i64 x.2.2.2)) e _ g3
    refine ⟨⟨fl_length eIn _, .inr ⟨g, c, _, by simp, h2, g4, by simpa using h4, h5, by simpa using h6, ?_⟩⟩, fun n w0 hn hB => below_setRow (below_setRow (below_setRow (below_setRow hB (by omega) _) (by omega) _) (by omega) _) (by omega) _⟩
    rw [flIn_set l i hi x, ← h7]
    simp only [Array.toList_setIfInBounds, List.length_set, List.take_set]
end Go.Proofs.Ytboffjabffcddaa
