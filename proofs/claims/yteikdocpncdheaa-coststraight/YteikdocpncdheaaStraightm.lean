/-
  A made program whose Skips are Sets; a row of instructions, one of which is set.
-/
import Derived.Test.YteikdocpncdheaaRunw
import Derived.Test.YteikdocpncdheaaCodes
import Derived.Test.YteikdocpncdheaaPlains
namespace Go.Proofs.Yteikdocpncdheaa
open Go.ChangeShapes Go.WideShapes Go.ChangeAt Go.RowKit
attribute [local go_sem ↓] Go.wp_at_zero Go.wp_at_succ

def gS (x : In) : In := if x.1 = 7 then (1, 2, 0, 0) else x
theorem gS_no {x : In} (h : x.1 ≠ 7) : gS x = x := by unfold gS; rw [if_neg h]
theorem gS_yes {x : In} (h : x.1 = 7) : gS x = (1, 2, 0, 0) := by unfold gS; rw [if_pos h]
theorem gt_map (l : List In) (i : Nat) : gt (l.map gS) i = gS (gt l i) := by
  by_cases h : i < l.length
  · rw [gt_eq (by simpa using h), gt_eq h, List.getElem_map]
  · rw [gt_out (by simpa using h), gt_out (by omega)]
    rfl
theorem gS_op (x : In) : (gS x).1 ≠ 7 ∧ (∀ k : Int, k ≠ 1 → k ≠ 7 → ((gS x).1 = k ↔ x.1 = k)) := by
  unfold gS
  by_cases h : x.1 = 7
  · rw [if_pos h]
    exact ⟨by decide, fun k h1 h2 => ⟨fun e => absurd e.symm h1, fun e => by omega⟩⟩
  · rw [if_neg h]
    exact ⟨h, fun k _ _ => Iff.rfl⟩
theorem gS_rch (x : In) : rch (gS x) = if x.1 = 7 then 0 else rch x := by
  unfold gS
  by_cases h : x.1 = 7
  · rw [if_pos h, if_pos h]; rfl
  · rw [if_neg h, if_neg h]
theorem inA_map {l : List In} {f i : Nat} : inA (l.map gS) f i = (inA l f i && !decide ((gt l f).1 = 7)) := by
  rw [Bool.eq_iff_iff, inA_iff, gt_map, gS_rch]
  simp only [Bool.and_eq_true, inA_iff, Bool.not_eq_true', decide_eq_false_iff_not]
  by_cases h : (gt l f).1 = 7
  · rw [if_pos h]
    constructor
    · intro h1; omega
    · rintro ⟨_, h2⟩; exact absurd h h2
  · rw [if_neg h]
    exact ⟨fun h1 => ⟨h1, h⟩, fun h1 => h1.1⟩
theorem gd_map {l : List In} (h : Gd l) : Gd (l.map gS) := by
  have e9 : ∀ i, (gt (l.map gS) i).1 = 9 → (gt l i).1 = 9 := fun i hi => by rw [gt_map] at hi; exact ((gS_op _).2 9 (by decide) (by decide)).1 hi
  refine ⟨?_, fun i hi => ?_, fun i hi => ?_, fun i j hij => ?_, fun i hi h9 => ?_, fun i hi h10 => ?_, fun f i hi h9 => ?_, fun f i hi h11 => ?_⟩
  · rw [List.all_eq_true]
    intro x hx
    obtain ⟨y, hy, rfl⟩ := List.mem_map.1 hx
    have := List.all_eq_true.1 h.may y hy
    unfold gS
    split
    · decide
    · exact this
  · rw [gt_map]
    intro e
    exact h.fin i (by simpa using hi) (((gS_op _).2 0 (by decide) (by decide)).1 e)
  · rw [gt_map, gS_rch, List.length_map]
    have := h.area i (by simpa using hi)
    split
    · simpa using hi
    · exact this
  · rw [inA_map, Bool.and_eq_true] at hij
    rw [gt_map, gS_rch, h.flat i j hij.1]
    split <;> rfl
  · have h9' := e9 i h9
    obtain ⟨a1, a2, a3, a4, a5⟩ := h.lock i (by simpa using hi) h9'
    rw [gt_map, gt_map, gt_map, gS_no (by omega), gS_no (by omega), gS_no (by omega), List.length_map]
    exact ⟨a1, a2, a3, a4, a5⟩
  · rw [gt_map] at h10
    obtain ⟨a1, a2⟩ := h.un i (by simpa using hi) (((gS_op _).2 10 (by decide) (by decide)).1 h10)
    rw [gt_map, gS_no (by omega)]
    exact ⟨a1, a2⟩
  · rw [inA_map, inA_map, h.scope f i (by simpa using hi) (e9 i h9)]
  · rw [gt_map] at h11
    rw [inA_map, h.mark f i (by simpa using hi) (((gS_op _).2 11 (by decide) (by decide)).1 h11)]
    rfl
/-- .. the first k of them -/
def mpK (l : List In) (k : Nat) : List In := (List.range l.length).map fun i => if i < k then gS (gt l i) else gt l i
theorem mpK_len (l : List In) (k : Nat) : (mpK l k).length = l.length := by simp [mpK]
theorem mpK_get {l : List In} {k i : Nat} (hi : i < l.length) : (mpK l k)[i]'(by rw [mpK_len]; exact hi) = if i < k then gS (gt l i) else gt l i := by simp [mpK]
theorem mpK_zero (l : List In) : mpK l 0 = l := by
  apply List.ext_getElem (mpK_len l 0)
  intro i h1 h2
  rw [mpK_get h2, if_neg (by omega), gt_eq h2]
theorem mpK_all (l : List In) : mpK l l.length = l.map gS := by
  apply List.ext_getElem (by rw [mpK_len, List.length_map])
  intro i h1 h2
  rw [mpK_len] at h1
  rw [mpK_get h1, if_pos h1, gt_eq h1, List.getElem_map]
theorem mpK_next {l : List In} (k : Nat) : mpK l (k + 1) = (mpK l k).set k (gS (gt l k)) := by
  apply List.ext_getElem (by simp [mpK])
  intro i h1 h2
  rw [mpK_len] at h1
  rw [mpK_get h1, List.getElem_set, mpK_get h1]
  by_cases e : k = i
  · subst e; simp
  · have : (i < k + 1) = (i < k) := by apply propext; omega
    simp [e, this]
theorem mpK_stay {l : List In} {k : Nat} (h : gS (gt l k) = gt l k) : mpK l (k + 1) = mpK l k := by
  unfold mpK
  congr 1
  funext i
  by_cases e : i = k
  · subst e; simp [h]
  · have : (i < k + 1) = (i < k) := by apply propext; omega
    simp [this]
theorem flIn_set : ∀ (l : List In) (i : Nat) (_ : i < l.length) (x : In), fl eIn (l.set i x) = ((((fl eIn l).set (i * 4) (.int .i64 x.1)).set (i * 4 + 1) (.int .i64 x.2.1)).set (i * 4 + 2) (.int .i64 x.2.2.1)).set (i * 4 + 3) (.int .i64 x.2.2.2)
  | y :: r, 0, _, x => by simp [fl, eIn]
  | y :: r, i + 1, hi, x => by
    have ih := flIn_set r i (by simpa using hi) x
    have e : (i + 1) * 4 = i * 4 + 4 := by omega
    show eIn.enc y ++ fl eIn (r.set i x) = _
    rw [ih, e]
    show _ = (((([Value.int .i64 y.1, Value.int .i64 y.2.1, Value.int .i64 y.2.2.1, Value.int .i64 y.2.2.2] ++ fl eIn r).set (i * 4 + 4) _).set (i * 4 + 4 + 1) _).set (i * 4 + 4 + 2) _).set (i * 4 + 4 + 3) _
    rw [show i * 4 + 4 + 1 = i * 4 + 1 + 4 by omega, show i * 4 + 4 + 2 = i * 4 + 2 + 4 by omega, show i * 4 + 4 + 3 = i * 4 + 3 + 4 by omega]
    rfl
theorem own_setIn {w : World} {base : Nat} {e : TypeId} {p : Option Addr} {c : Nat} {l : List In} (h : Own eIn w base e p c l) (i : Nat) (hi : i < l.length) :
    ∃ b, p = some ⟨b, 0, none⟩ ∧ base ≤ b ∧ b < w.heap.size ∧ (∀ j, w.frozen? ⟨b, j, none⟩ = false) ∧ (w.cell? ⟨b, i * 4, none⟩ = some (.int .i64 l[i].1) ∧ w.cell? ⟨b, i * 4 + 1, none⟩ = some (.int .i64 l[i].2.1) ∧ w.cell? ⟨b, i * 4 + 2, none⟩ = some (.int .i64 l[i].2.2.1) ∧ w.cell? ⟨b, i * 4 + 3, none⟩ = some (.int .i64 l[i].2.2.2)) ∧
      ∀ x : In, Own eIn ((((w.setCell ⟨b, i * 4, none⟩ (.int .i64 x.1)).setCell ⟨b, i * 4 + 1, none⟩ (.int .i64 x.2.1)).setCell ⟨b, i * 4 + 2, none⟩ (.int .i64 x.2.2.1)).setCell ⟨b, i * 4 + 3, none⟩ (.int .i64 x.2.2.2)) base e p c (l.set i x) ∧ ∀ (n : Nat) (w0 : World), n ≤ base → Below n w0 w → Below n w0 ((((w.setCell ⟨b, i * 4, none⟩ (.int .i64 x.1)).setCell ⟨b, i * 4 + 1, none⟩ (.int .i64 x.2.1)).setCell ⟨b, i * 4 + 2, none⟩ (.int .i64 x.2.2.1)).setCell ⟨b, i * 4 + 3, none⟩ (.int .i64 x.2.2.2)) := by
  have hc := (own_rd h).inst i hi
  rcases h.2 with ⟨h1, h2⟩ | ⟨g, cap, cur, h1, h2, h3, h4, h5, h6, h7⟩
  · simp only [Value.slice.injEq] at h1
    omega
  · simp only [Value.slice.injEq, true_and] at h1
    obtain ⟨rfl, rfl⟩ := h1
    obtain ⟨b', o', e', hb, c0, c1, c2, c3⟩ := hc
    cases e'
    rw [Nat.zero_add] at c0 c1 c2 c3
    refine ⟨g, rfl, h2, (Array.getElem?_eq_some_iff.1 h3).1, fun j => by simp [World.frozen?, h3], ⟨c0, c1, c2, c3⟩, fun x => ?_⟩
    rw [setCell_eq_setRow w g (i * 4) _ _ _ _ h3]
    have g1 := setRow_heap w g _ (cur.setIfInBounds (i * 4) (.int .i64 x.1)) e _ h3
    rw [setCell_eq_setRow _ g (i * 4 + 1) _ _ _ _ g1]
    have g2 := setRow_heap _ g _ ((cur.setIfInBounds (i * 4) (.int .i64 x.1)).setIfInBounds (i * 4 + 1) (.int .i64 x.2.1)) e _ g1
    rw [setCell_eq_setRow _ g (i * 4 + 2) _ _ _ _ g2]
    have g3 := setRow_heap _ g _ (((cur.setIfInBounds (i * 4) (.int .i64 x.1)).setIfInBounds (i * 4 + 1) (.int .i64 x.2.1)).setIfInBounds (i * 4 + 2) (.int .i64 x.2.2.1)) e _ g2
    rw [setCell_eq_setRow _ g (i * 4 + 3) _ _ _ _ g3]
    have g4 := setRow_heap _ g _ ((((cur.setIfInBounds (i * 4) (.int .i64 x.1)).setIfInBounds (i * 4 + 1) (.int .i64 x.2.1)).setIfInBounds (i * 4 + 2) (.int .i64 x.2.2.1)).setIfInBounds (i * 4 + 3) (.int .i64 x.2.2.2)) e _ g3
    refine ⟨⟨fl_length eIn _, .inr ⟨g, c, _, by simp, h2, g4, by simpa using h4, h5, by simpa using h6, ?_⟩⟩, fun n w0 hn hB => below_setRow (below_setRow (below_setRow (below_setRow hB (by omega) _) (by omega) _) (by omega) _) (by omega) _⟩
    rw [flIn_set l i hi x, ← h7]
    simp only [Array.toList_setIfInBounds, List.length_set, List.take_set]
theorem lgs_tk {l : List In} : ∀ {k : Nat}, k ≤ l.length → lgs l k ≤ Sm l 0 0 l.length
  | 0, _ => Nat.zero_le _
  | k + 1, hk => by
    have ih := lgs_tk (l := l) (k := k) (by omega)
    cases hm : isM l k with
    | false => rw [(frs_no hm).2]; exact ih
    | true =>
      have hf := frs_le l k
      rw [(frs_yes hm).2, Sm_split (l := l) (lo := 0) (a := 0) (m := frs l k) (b := l.length) (by omega) (by omega), Sm_split (l := l) (lo := 0) (a := frs l k) (m := k + 1) (b := l.length) (by omega) (by omega)]
      rw [Sm_split (l := l) (lo := 0) (a := 0) (m := frs l k) (b := l.length) (by omega) (by omega), Sm_split (l := l) (lo := 0) (a := frs l k) (m := k + 1) (b := l.length) (by omega) (by omega)] at ih
      omega
end Go.Proofs.Yteikdocpncdheaa
