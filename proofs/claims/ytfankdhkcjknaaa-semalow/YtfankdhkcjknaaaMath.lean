/-
  Who holds what, as plain rows of pairs (what a semaphore's ceiling is, who holds it); nothing of a program's text.
-/
import Derived.WalkKit
namespace Go.Proofs.Ytfankdhkcjknaaa

/-- a semaphore: its ceiling, its holder -/
abbrev Sm := Int × Int
/-- the ceiling of the semaphore at place s, if h is its holder -/
def lookS (l : List Sm) (s h : Int) : Option Int := if 0 ≤ s then (match l[s.toNat]? with | some x => if x.2 = h then some x.1 else none | none => none) else none
/-- the holder of the semaphore at place s becomes h -/
def putS (l : List Sm) (s h : Int) : List Sm := l.modify s.toNat (fun x => (x.1, h))
def takeB (l : List Sm) (s : Int) : Bool := (lookS l s 0).isSome
def takeS (l : List Sm) (s h : Int) : List Sm := if takeB l s then putS l s h else l
def letB (l : List Sm) (s h : Int) : Bool := (lookS l s h).isSome
def letS (l : List Sm) (s h : Int) : List Sm := if letB l s h then putS l s 0 else l
def freeS (h : Int) (x : Sm) : Sm := if x.2 = h then (x.1, 0) else x
def allS (l : List Sm) (h : Int) : List Sm := l.map (freeS h)
def lowF (l : List Sm) (h : Int) (a : Option Int) (s : Int) : Option Int := match lookS l s h with | some c => (match a with | none => some c | some b => if c < b then some c else some b) | none => a
def lowS (l : List Sm) (held : List Int) (h : Int) : Option Int := held.foldl (lowF l h) none

theorem putS_length (l : List Sm) (s h : Int) : (putS l s h).length = l.length := by simp [putS]
theorem takeS_length (l : List Sm) (s h : Int) : (takeS l s h).length = l.length := by unfold takeS; split <;> simp [putS_length]
theorem letS_length (l : List Sm) (s h : Int) : (letS l s h).length = l.length := by unfold letS; split <;> simp [putS_length]
theorem allS_length (l : List Sm) (h : Int) : (allS l h).length = l.length := by simp [allS]

theorem lookS_at {l : List Sm} {k : Nat} (hk : k < l.length) (h : Int) : lookS l (k : Int) h = if l[k].2 = h then some l[k].1 else none := by
  simp [lookS, hk]
theorem lookS_low {l : List Sm} {s : Int} (hs : s < 0) (h : Int) : lookS l s h = none := by
  unfold lookS
  rw [if_neg (by omega)]
theorem lookS_high {l : List Sm} {s : Int} (hs : (l.length : Int) ≤ s) (h : Int) : lookS l s h = none := by
  unfold lookS
  rw [if_pos (by omega), List.getElem?_eq_none (by omega)]
/-- Where somebody holds it: a place of the row. -/
theorem lookS_some {l : List Sm} {s h c : Int} (e : lookS l s h = some c) : ∃ (k : Nat) (hk : k < l.length), s = (k : Int) ∧ l[k].2 = h ∧ l[k].1 = c := by
  by_cases h1 : s < 0
  · rw [lookS_low h1] at e; cases e
  · by_cases h2 : (l.length : Int) ≤ s
    · rw [lookS_high h2] at e; cases e
    · obtain ⟨k, rfl⟩ : ∃ k : Nat, s = (k : Int) := ⟨s.toNat, by omega⟩
      have hk : k < l.length := by omega
      rw [lookS_at hk] at e
      refine ⟨k, hk, rfl, ?_⟩
      split at e
      · rename_i h3; cases e; exact ⟨h3, rfl⟩
      · cases e
theorem putS_set {l : List Sm} {k : Nat} (hk : k < l.length) (h : Int) : putS l (k : Int) h = l.set k (l[k].1, h) := by
  apply List.ext_getElem (by simp [putS])
  intro i h1 h2
  simp only [putS, List.getElem_modify, List.getElem_set, Int.toNat_natCast]
  split
  · rename_i e; subst e; rfl
  · rfl

/-- The entries of the map that has each ceiling under its place and holder. -/
def ents : Nat → List Sm → List ((Int × Int) × Int)
  | _, [] => []
  | k, x :: r => (((k : Int), x.2), x.1) :: ents (k + 1) r
theorem ents_length : ∀ (k : Nat) (l : List Sm), (ents k l).length = l.length
  | _, [] => rfl
  | k, x :: r => by simp [ents, ents_length (k + 1) r]
theorem ents_snoc : ∀ (k : Nat) (l : List Sm) (x : Sm), ents k (l ++ [x]) = ents k l ++ [((((k + l.length : Nat) : Int), x.2), x.1)]
  | k, [], x => by simp [ents]
  | k, y :: r, x => by
    simp only [List.cons_append, ents, ents_snoc (k + 1) r x, List.length_cons]
    rw [show k + 1 + r.length = k + (r.length + 1) by omega]
theorem ents_take {l : List Sm} {k : Nat} (hk : k < l.length) : ents 0 (l.take (k + 1)) = ents 0 (l.take k) ++ [(((k : Int), l[k].2), l[k].1)] := by
  rw [List.take_succ_eq_append_getElem hk, ents_snoc]
  simp [Nat.min_eq_left (Nat.le_of_lt hk)]
theorem ents_key : ∀ (k : Nat) (l : List Sm), ∀ x ∈ ents k l, (k : Int) ≤ x.1.1 ∧ x.1.1 < ((k + l.length : Nat) : Int)
  | k, y :: r, x, hx => by
    simp only [ents, List.mem_cons] at hx
    rcases hx with rfl | hx
    · simp; omega
    · have := ents_key (k + 1) r x hx
      simp only [List.length_cons]; omega
def lookE : List ((Int × Int) × Int) → Int → Int → Option Int
  | [], _, _ => none
  | x :: r, a, b => if a = x.1.1 ∧ b = x.1.2 then some x.2 else lookE r a b
theorem lookE_none {m : List ((Int × Int) × Int)} {a b : Int} (h : ∀ x ∈ m, x.1.1 ≠ a) : lookE m a b = none := by
  induction m with
  | nil => rfl
  | cons x r ih =>
    simp only [lookE]
    rw [if_neg (fun e => h x (by simp) e.1.symm)]
    exact ih (fun y hy => h y (by simp [hy]))
theorem look_ents : ∀ (l : List Sm) (k : Nat) (s h : Int), lookE (ents k l) s h = lookS l (s - k) h
  | [], k, s, h => by simp [ents, lookE, lookS]
  | x :: r, k, s, h => by
    simp only [ents, lookE]
    by_cases h1 : s = (k : Int)
    · subst h1
      by_cases h2 : h = x.2
      · subst h2; simp [lookS]
      · have h3 : ¬ x.2 = h := fun e => h2 e.symm
        rw [if_neg (by simp [h2]), lookE_none (fun y hy => by have := (ents_key (k + 1) r y hy).1; omega)]
        simp [lookS, h3]
    · rw [if_neg (by simp [h1]), look_ents r (k + 1) s h]
      by_cases h2 : s < k
      · rw [lookS_low (by omega), lookS_low (by omega)]
      · obtain ⟨j, hj⟩ : ∃ j : Nat, s = (k : Int) + 1 + j := ⟨(s - k - 1).toNat, by omega⟩
        have e1 : (s - (k : Int)).toNat = j + 1 := by omega
        have e2 : (s - ((k + 1 : Nat) : Int)).toNat = j := by omega
        unfold lookS
        rw [if_pos (by omega), if_pos (by omega), e1, e2]
        simp
theorem look_all (l : List Sm) (s h : Int) : lookE (ents 0 l) s h = lookS l s h := by
  have := look_ents l 0 s h
  simpa using this

theorem lowS_succ (l : List Sm) (held : List Int) (h : Int) (k : Nat) (hk : k < held.length) : lowS l (held.take (k + 1)) h = lowF l h (lowS l (held.take k) h) held[k] := by
  unfold lowS
  rw [List.take_succ_eq_append_getElem hk, List.foldl_append]
  rfl
theorem allS_get {l : List Sm} {k : Nat} (hk : k < l.length) (h : Int) : (allS l h)[k]'(by rw [allS_length]; exact hk) = freeS h l[k] := by simp [allS]

/-- The first k of a row as they become, the others as they were. -/
def partS (l : List Sm) (h : Int) (k : Nat) : List Sm := allS (l.take k) h ++ l.drop k
theorem partS_length {l : List Sm} {h : Int} {k : Nat} (hk : k ≤ l.length) : (partS l h k).length = l.length := by simp [partS, allS_length]; omega
theorem partS_zero (l : List Sm) (h : Int) : partS l h 0 = l := by simp [partS, allS]
theorem partS_all {l : List Sm} {h : Int} {k : Nat} (hk : l.length ≤ k) : partS l h k = allS l h := by
  unfold partS
  rw [List.take_of_length_le hk, List.drop_of_length_le hk, List.append_nil]
theorem partS_get {l : List Sm} {h : Int} {k : Nat} (hk : k < l.length) : (partS l h k)[k]'(by rw [partS_length (by omega)]; exact hk) = l[k] := by
  have : (allS (l.take k) h).length = k := by rw [allS_length]; simp; omega
  simp only [partS]
  rw [List.getElem_append_right (by omega)]
  simp [this]
theorem partS_succ {l : List Sm} {h : Int} {k : Nat} (hk : k < l.length) : partS l h (k + 1) = (partS l h k).set k (freeS h l[k]) := by
  have hl : (allS (l.take k) h).length = k := by rw [allS_length]; simp; omega
  unfold partS
  rw [List.set_append_right _ _ (by omega), hl, Nat.sub_self, List.drop_eq_getElem_cons hk, List.set_cons_zero, List.take_succ_eq_append_getElem hk]
  unfold allS
  rw [List.map_append, List.append_assoc]
  rfl
theorem partS_same {l : List Sm} {h : Int} {k : Nat} (hk : k < l.length) (hne : l[k].2 ≠ h) : partS l h (k + 1) = partS l h k := by
  rw [partS_succ hk]
  have hf : freeS h l[k] = l[k] := by simp [freeS, hne]
  rw [hf]
  have hk' : k < (partS l h k).length := by rw [partS_length (by omega)]; exact hk
  rw [← partS_get (h := h) hk, List.set_getElem_self]
end Go.Proofs.Ytfankdhkcjknaaa
