/-
  A region that draws its order, by an invariant over what has come up: whatever the order.
-/
import Derived.Test.YtonholadabebbaaHand
namespace Go.Proofs.Ytonholadabebbaa

section
variable {P : Program} {ops : Array Oper} {Q : Exit → Act → World → Prop} {md : Region.Mode}

/-- how many have not come up -/
def cntF (ops : Array Oper) (listed : Array Bool) : Nat := ((List.range ops.size).filter fun i => !listed.getD i true).length
theorem filter_less {p q : Nat → Bool} (h : ∀ x, q x = true → p x = true) {i : Nat} (hp : p i = true) (hq : q i = false) : ∀ {L : List Nat}, i ∈ L → (L.filter q).length + 1 ≤ (L.filter p).length
  | x :: r, hi => by
    have hle : ∀ L : List Nat, (L.filter q).length ≤ (L.filter p).length := by
      intro L
      induction L with
      | nil => exact Nat.le_refl _
      | cons y s ih =>
        cases hy : q y with
        | true => simp [hy, h y hy]; exact ih
        | false =>
          cases hpy : p y with
          | true => simp [hy, hpy]; omega
          | false => simp [hy, hpy]; exact ih
    by_cases e : i = x
    · subst e
      have := hle r
      simp [hp, hq]
      omega
    · have ih := filter_less h hp hq (L := r) (by rcases List.mem_cons.1 hi with h | h; exact absurd h e; exact h)
      cases hy : q x with
      | true => simp [hy, h x hy]; omega
      | false =>
        cases hpy : p x with
        | true => simp [hy, hpy]; omega
        | false => simp [hy, hpy]; omega
theorem ready_mem {listed : Array Bool} {i : Nat} (h : i ∈ Region.ready md ops listed) : i < ops.size ∧ listed.getD i true = false ∧ ∃ o, ops[i]? = some o ∧ ∀ e ∈ o.after, Region.binds md e = true → listed.getD e.on false = true := by
  unfold Region.ready at h
  rw [List.mem_filter] at h
  obtain ⟨h1, h2⟩ := h
  simp only [Bool.and_eq_true, Bool.not_eq_true'] at h2
  refine ⟨by simpa using h1, h2.1, ?_⟩
  cases ho : ops[i]? with
  | none => rw [ho] at h2; simp at h2
  | some o =>
    refine ⟨o, rfl, fun e he hb => ?_⟩
    rw [ho] at h2
    have h3 := h2.2
    simp only [Option.map_some, Option.getD_some, Array.all_eq_true_iff_forall_mem] at h3
    have := h3 e he
    rw [hb] at this
    simpa using this
theorem getD_set_same {l : Array Bool} {i : Nat} (h : l.getD i true = false) : (l.setIfInBounds i true).getD i true = true := by
  have hi : i < l.size := by
    apply Decidable.byContradiction
    intro hn
    simp [Array.getD_eq_getD_getElem?, Array.getElem?_eq_none (by omega : l.size ≤ i)] at h
  simp [Array.getD_eq_getD_getElem?, hi]
theorem getD_set_other {l : Array Bool} {i x : Nat} {d : Bool} (h : x ≠ i) : (l.setIfInBounds i true).getD x d = l.getD x d := by
  simp only [Array.getD_eq_getD_getElem?]
  rw [Array.getElem?_setIfInBounds_ne (fun e => h e.symm)]
/-- Whatever comes up keeps I, and I of the end is what is asked. -/
theorem wpAny_inv (I : Array Bool → Act → World → Prop)
    (hdone : ∀ listed a w, I listed a w → Region.ready md ops listed = [] → Q .normal a w)
    (hstep : ∀ listed a w i, I listed a w → i ∈ Region.ready md ops listed → wpOp P ops Q i (fun a' w' => I (listed.setIfInBounds i true) a' w') a w) :
    ∀ (fuel : Nat) (listed : Array Bool) (a : Act) (w : World), I listed a w → cntF ops listed ≤ fuel → wpAny P md ops Q fuel listed a w
  | 0, listed, a, w, hI, hf => by
    have hn : Region.ready md ops listed = [] := by
      cases hr : Region.ready md ops listed with
      | nil => rfl
      | cons i r =>
        exfalso
        obtain ⟨h1, h2, _⟩ := ready_mem (ops := ops) (md := md) (listed := listed) (i := i) (by rw [hr]; simp)
        have hm : i ∈ (List.range ops.size).filter fun i => !listed.getD i true := by
          rw [List.mem_filter]
          exact ⟨by simpa using h1, by rw [h2]; rfl⟩
        have := List.length_pos_of_mem hm
        unfold cntF at hf
        omega
    exact ⟨hn, hdone _ _ _ hI hn⟩
  | fuel + 1, listed, a, w, hI, hf => by
    refine ⟨hdone _ _ _ hI, fun i hi => ?_⟩
    obtain ⟨h1, h2, _⟩ := ready_mem hi
    refine wpOp_mono (fun a' w' h' => wpAny_inv I hdone hstep fuel _ a' w' h' ?_) (hstep listed a w i hI hi)
    have := filter_less (p := fun i => !listed.getD i true) (q := fun x => !(listed.setIfInBounds i true).getD x true) (fun x hx => by
      by_cases e : x = i
      · subst e
        rw [getD_set_same h2] at hx
        cases hx
      · rw [getD_set_other e] at hx
        exact hx) (i := i) (by simp [h2]) (by rw [getD_set_same h2]; rfl) (L := List.range ops.size) (by simpa using h1)
    unfold cntF at hf ⊢
    omega
/-- where each waits only for what stands ahead of it, at the end all have come up -/
theorem all_up {listed : Array Bool} (hs : listed.size = ops.size) (ha : ∀ (i : Nat) (o : Oper), ops[i]? = some o → ∀ e ∈ o.after, Region.binds md e = true → e.on < i) (h : Region.ready md ops listed = []) : ∀ i, i < ops.size → listed.getD i false = true := by
  intro i
  induction i using Nat.strongRecOn with
  | _ i ih =>
    intro hi
    apply Decidable.byContradiction
    intro hn
    have h1 : listed.getD i true = false := by
      have hil : i < listed.size := by omega
      simp [Array.getD_eq_getD_getElem?, hil] at hn ⊢
      exact hn
    obtain ⟨o, ho⟩ : ∃ o, ops[i]? = some o := ⟨ops[i], by simp [hi]⟩
    have hm : i ∈ Region.ready md ops listed := by
      unfold Region.ready
      rw [List.mem_filter]
      refine ⟨by simpa using hi, ?_⟩
      rw [h1, ho]
      simp only [Bool.not_false, Option.map_some, Option.getD_some, Bool.true_and, Array.all_eq_true_iff_forall_mem]
      intro e he
      cases hb : Region.binds md e with
      | false => simp
      | true =>
        have hlt := ha i o ho e he hb
        rw [ih e.on hlt (by omega)]
        simp
    rw [h] at hm
    cases hm
end
end Go.Proofs.Ytonholadabebbaa
