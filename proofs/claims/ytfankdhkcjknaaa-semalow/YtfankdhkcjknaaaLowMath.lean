/-
  The least ceiling of those that are held: one of them, and none is below it; nothing of a program's text.
-/
import Derived.Test.YtfankdhkcjknaaaMath
namespace Go.Proofs.Ytfankdhkcjknaaa
/-- The ceilings of those of the places that h holds. -/
def ceilsOf (l : List Sm) (h : Int) (held : List Int) : List Int := held.filterMap fun s => lookS l s h
theorem ceilsOf_succ (l : List Sm) (h : Int) (held : List Int) (k : Nat) (hk : k < held.length) : ceilsOf l h (held.take (k + 1)) = ceilsOf l h (held.take k) ++ (lookS l held[k] h).toList := by
  unfold ceilsOf
  rw [List.take_succ_eq_append_getElem hk, List.filterMap_append]
  cases hq : lookS l held[k] h <;> simp [hq]
theorem low_fold (l : List Sm) (h : Int) : ∀ (held : List Int) (a : Option Int), held.foldl (lowF l h) a = (ceilsOf l h held).foldl (fun a c => match a with | none => some c | some b => if c < b then some c else some b) a
  | [], a => rfl
  | s :: r, a => by
    rw [List.foldl_cons, low_fold l h r]
    unfold ceilsOf
    rw [List.filterMap_cons]
    cases hq : lookS l s h with
    | none => simp [lowF, hq]
    | some c => simp [lowF, hq]; rfl
theorem fold_some : ∀ (F : List Int) (b : Int), ∃ v, F.foldl (fun a c => match a with | none => some c | some b => if c < b then some c else some b) (some b) = some v ∧ v ≤ b ∧ (v = b ∨ v ∈ F) ∧ ∀ y ∈ F, v ≤ y
  | [], b => ⟨b, rfl, Int.le_refl _, .inl rfl, fun y hy => by simp at hy⟩
  | c :: r, b => by
    by_cases hc : c < b
    · obtain ⟨v, h1, h2, h3, h4⟩ := fold_some r c
      refine ⟨v, by simp [hc, h1], by omega, .inr ?_, ?_⟩
      · rcases h3 with rfl | h3
        · simp
        · simp [h3]
      · intro y hy
        rcases List.mem_cons.1 hy with rfl | hy
        · exact h2
        · exact h4 y hy
    · obtain ⟨v, h1, h2, h3, h4⟩ := fold_some r b
      refine ⟨v, by simp [hc, h1], h2, ?_, ?_⟩
      · rcases h3 with rfl | h3
        · exact .inl rfl
        · exact .inr (by simp [h3])
      · intro y hy
        rcases List.mem_cons.1 hy with rfl | hy
        · omega
        · exact h4 y hy
theorem low_spec (l : List Sm) (held : List Int) (h : Int) :
    (lowS l held h = none ∧ ceilsOf l h held = []) ∨ ∃ v, lowS l held h = some v ∧ v ∈ ceilsOf l h held ∧ ∀ y ∈ ceilsOf l h held, v ≤ y := by
  unfold lowS
  rw [low_fold]
  cases hF : ceilsOf l h held with
  | nil => exact .inl ⟨rfl, rfl⟩
  | cons c r =>
    obtain ⟨v, h1, h2, h3, h4⟩ := fold_some r c
    refine .inr ⟨v, h1, ?_, ?_⟩
    · rcases h3 with rfl | h3
      · simp
      · simp [h3]
    · intro y hy
      rcases List.mem_cons.1 hy with rfl | hy
      · exact h2
      · exact h4 y hy
/-- What is told is what is looked for: whether there is one, and the least. -/
theorem low_end (l : List Sm) (held : List Int) (h : Int) (v : Int) (is : Bool) (hv : (lowS l held h).getD 0 = v) (hi : (lowS l held h).isSome = is) :
    is = !(ceilsOf l h held).isEmpty ∧ (is = true → v ∈ ceilsOf l h held) ∧ (is = false → v = 0) ∧ ∀ y ∈ ceilsOf l h held, v ≤ y := by
  rcases low_spec l held h with ⟨h1, h2⟩ | ⟨u, h1, h2, h3⟩
  · rw [h1] at hv hi
    rw [h2]
    simp at hv hi
    subst hv hi
    simp
  · rw [h1] at hv hi
    simp at hv hi
    subst hv hi
    refine ⟨?_, fun _ => h2, by simp, h3⟩
    cases hF : ceilsOf l h held with
    | nil => rw [hF] at h2; simp at h2
    | cons c r => rfl
theorem ceilsOf_mem {l : List Sm} {h : Int} {held : List Int} {k : Nat} (hk : k < held.length) {y : Int} (hy : lookS l held[k] h = some y) : y ∈ ceilsOf l h held :=
  List.mem_filterMap.2 ⟨held[k], List.getElem_mem hk, hy⟩
end Go.Proofs.Ytfankdhkcjknaaa
