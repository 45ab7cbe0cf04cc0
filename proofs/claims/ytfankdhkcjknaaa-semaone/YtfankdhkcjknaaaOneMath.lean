/-
  Who holds what, as a row of holders beside a row of semaphores; nothing of a program's text.
-/
import Derived.Test.YtfankdhkcjknaaaMath
namespace Go.Proofs.Ytfankdhkcjknaaa
/-- semaphores of ceiling 0 with these holders -/
def semW (l : List Int) : List Sm := l.map fun h => (0, h)
theorem semW_length (l : List Int) : (semW l).length = l.length := by simp [semW]
theorem semW_get {l : List Int} {k : Nat} (hk : k < l.length) : (semW l)[k]'(by rw [semW_length]; exact hk) = (0, l[k]) := by simp [semW]
theorem semW_set (l : List Int) (k : Nat) (h : Int) : (semW l).set k (0, h) = semW (l.set k h) := by simp [semW, List.map_set]
theorem semW_put {l : List Int} {k : Nat} (hk : k < l.length) (h : Int) : putS (semW l) (k : Int) h = semW (l.set k h) := by
  have hk' : k < (semW l).length := by rw [semW_length]; exact hk
  rw [putS_set hk', semW_get hk, semW_set]
theorem semW_look {l : List Int} {k : Nat} (hk : k < l.length) (h : Int) : lookS (semW l) (k : Int) h = if l[k] = h then some 0 else none := by
  have hk' : k < (semW l).length := by rw [semW_length]; exact hk
  rw [lookS_at hk', semW_get hk]
theorem one_take {l : List Int} {k : Nat} (hk : k < l.length) (h0 : l[k] = 0) (H : Int) : takeB (semW l) (k : Int) = true ∧ takeS (semW l) (k : Int) H = semW (l.set k H) := by
  have hB : takeB (semW l) (k : Int) = true := by simp [takeB, semW_look hk, h0]
  exact ⟨hB, by simp [takeS, hB, semW_put hk]⟩
theorem one_held {l : List Int} {k : Nat} (hk : k < l.length) (h0 : l[k] ≠ 0) (H : Int) : takeB (semW l) (k : Int) = false ∧ takeS (semW l) (k : Int) H = semW l := by
  have hB : takeB (semW l) (k : Int) = false := by simp [takeB, semW_look hk, h0]
  exact ⟨hB, by simp [takeS, hB]⟩
theorem one_let {l : List Int} {k : Nat} (hk : k < l.length) {H : Int} (h0 : l[k] = H) : letB (semW l) (k : Int) H = true ∧ letS (semW l) (k : Int) H = semW (l.set k 0) := by
  have hB : letB (semW l) (k : Int) H = true := by simp [letB, semW_look hk, h0]
  exact ⟨hB, by simp [letS, hB, semW_put hk]⟩
theorem one_not {l : List Int} {k : Nat} (hk : k < l.length) {H : Int} (h0 : l[k] ≠ H) : letB (semW l) (k : Int) H = false ∧ letS (semW l) (k : Int) H = semW l := by
  have hB : letB (semW l) (k : Int) H = false := by simp [letB, semW_look hk, h0]
  exact ⟨hB, by simp [letS, hB]⟩
theorem one_far {l : List Int} {s : Int} (hs : (l.length : Int) ≤ s) (H : Int) : (takeB (semW l) s = false ∧ takeS (semW l) s H = semW l) ∧ (letB (semW l) s H = false ∧ letS (semW l) s H = semW l) := by
  have hl : ((semW l).length : Int) ≤ s := by rw [semW_length]; exact hs
  have hB : takeB (semW l) s = false := by simp [takeB, lookS_high hl]
  have hC : letB (semW l) s H = false := by simp [letB, lookS_high hl]
  exact ⟨⟨hB, by simp [takeS, hB]⟩, hC, by simp [letS, hC]⟩
def frW (H x : Int) : Int := if x = H then 0 else x
/-- The first k of a row of holders let go, the others as they were. -/
def goW (l : List Int) (H : Int) (k : Nat) : List Int := (l.take k).map (frW H) ++ l.drop k
theorem goW_length {l : List Int} {H : Int} {k : Nat} : (goW l H k).length = l.length := by simp [goW]; omega
theorem goW_zero (l : List Int) (H : Int) : goW l H 0 = l := by simp [goW]
theorem goW_all {l : List Int} {H : Int} {k : Nat} (hk : l.length ≤ k) : semW (goW l H k) = allS (semW l) H := by
  unfold goW semW allS
  rw [List.take_of_length_le hk, List.drop_of_length_le hk, List.append_nil, List.map_map, List.map_map]
  apply List.map_congr_left
  intro x _
  simp only [Function.comp, frW, freeS]
  split <;> rfl
theorem goW_get {l : List Int} {H : Int} {k : Nat} (hk : k < l.length) : (goW l H k)[k]'(by rw [goW_length]; exact hk) = l[k] := by
  have : ((l.take k).map (frW H)).length = k := by simp; omega
  simp only [goW]
  rw [List.getElem_append_right (by omega)]
  simp [Nat.min_eq_left (Nat.le_of_lt hk)]
theorem goW_succ {l : List Int} {H : Int} {k : Nat} (hk : k < l.length) : goW l H (k + 1) = (goW l H k).set k (frW H l[k]) := by
  have hl : ((l.take k).map (frW H)).length = k := by simp; omega
  unfold goW
  rw [List.set_append_right _ _ (by omega), hl, Nat.sub_self, List.drop_eq_getElem_cons hk, List.set_cons_zero, List.take_succ_eq_append_getElem hk, List.map_append, List.append_assoc]
  rfl
theorem goW_same {l : List Int} {H : Int} {k : Nat} (hk : k < l.length) (hne : l[k] ≠ H) : goW l H (k + 1) = goW l H k := by
  rw [goW_succ hk]
  have hf : frW H l[k] = l[k] := by simp [frW, hne]
  rw [hf, ← goW_get (H := H) hk, List.set_getElem_self]
end Go.Proofs.Ytfankdhkcjknaaa
