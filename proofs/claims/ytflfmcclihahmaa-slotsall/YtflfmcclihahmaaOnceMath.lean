/-
  What no run of Take and Free can break: each handle that was told is had till it is freed, no handle is told twice; as mathematics.
-/
import Derived.Test.YtflfmcclihahmaaHasRef
namespace Go.Proofs.Ytflfmcclihahmaa

structure Inv (N : Nat) (gs : List Int) (bs : List Bool) (told : List (Int × Int)) (has : List Bool) : Prop where
  gl : gs.length = N
  bl : bs.length = N
  hl : has.length = told.length
  at_ : ∀ k (h : k < told.length) (h' : k < has.length), has[k] = hasM gs bs told[k].1 told[k].2
  ap : ∀ m k (hm : m < k) (hk : k < told.length), told[m]'(Nat.lt_trans hm hk) ≠ told[k]
  old : ∀ x ∈ told, ∃ a : Nat, ∃ h : a < gs.length, x.1 = a ∧ x.2 ≤ gs[a]

theorem inv_zero (N : Nat) : Inv N (List.replicate N 0) (List.replicate N false) [] [] :=
  ⟨by simp, by simp, rfl, fun k h => by simp at h, fun m k _ hk => by simp at hk, fun x hx => by simp at hx⟩

theorem inv_full {N : Nat} {gs : List Int} {bs : List Bool} {told : List (Int × Int)} {has : List Bool} (h : Inv N gs bs told has) (hf : freeIn gs bs = none) : Inv N (tg gs bs) (tb gs bs) told has := by
  have e1 : tg gs bs = gs := by unfold tg; rw [hf]
  have e2 : tb gs bs = bs := by unfold tb; rw [hf]
  rw [e1, e2]; exact h

theorem freeIn_bs {gs : List Int} {bs : List Bool} {k : Nat} (h : freeIn gs bs = some k) (hk : k < bs.length) : bs[k] = false := by
  have := (freeIn_lt h).2.2
  rw [List.getElem?_eq_getElem hk] at this
  simpa using this

/-- A handle that is not of place k is had just as before. -/
theorem hasM_other {gs gs' : List Int} {bs bs' : List Bool} {k a : Nat} {g : Int} (hg : gs'.length = gs.length) (hb : bs'.length = bs.length) (hne : a ≠ k) (e1 : ∀ j, j ≠ k → gs'[j]? = gs[j]?) (e2 : ∀ j, j ≠ k → bs'[j]? = bs[j]?) :
    hasM gs' bs' a g = hasM gs bs a g := by
  unfold hasM hasB
  rw [hg, hb, List.getD_eq_getElem?_getD, List.getD_eq_getElem?_getD, List.getD_eq_getElem?_getD, List.getD_eq_getElem?_getD, Int.toNat_natCast, e1 a hne, e2 a hne]

theorem inv_take {N : Nat} {gs : List Int} {bs : List Bool} {told : List (Int × Int)} {has : List Bool} (h : Inv N gs bs told has) {k : Nat} (hf : freeIn gs bs = some k) :
    Inv N (tg gs bs) (tb gs bs) (told ++ [(tAt gs bs, tGen gs bs)]) (has ++ [true]) := by
  obtain ⟨hkg, hkb, _⟩ := freeIn_lt hf
  have hbk := freeIn_bs hf hkb
  have e1 : tg gs bs = gs.set k (gs[k] + 1) := by unfold tg; rw [hf]; simp [hkg]
  have e2 : tb gs bs = bs.set k true := by unfold tb; rw [hf]
  have e3 : tAt gs bs = k := by unfold tAt; rw [hf]
  have e4 : tGen gs bs = gs[k] + 1 := by unfold tGen; rw [hf]; simp [hkg]
  rw [e1, e2, e3, e4]
  have keep : ∀ x ∈ told, hasM (gs.set k (gs[k] + 1)) (bs.set k true) x.1 x.2 = hasM gs bs x.1 x.2 := by
    intro x hx
    obtain ⟨a, ha, hx1, hx2⟩ := h.old x hx
    rw [hx1]
    by_cases e : a = k
    · subst e
      rw [hasM_in (by simpa using hkg) (by simpa using hkb), hasM_in hkg hkb]
      simp [hbk]; omega
    · exact hasM_other (by simp) (by simp) e (fun j hj => by rw [List.getElem?_set_ne (Ne.symm hj)]) (fun j hj => by rw [List.getElem?_set_ne (Ne.symm hj)])
  refine ⟨by simpa using h.gl, by simpa using h.bl, by simp [h.hl], fun j hj hj' => ?_, fun m j hm hj => ?_, fun x hx => ?_⟩
  · by_cases e : j < told.length
    · rw [List.getElem_append_left e, List.getElem_append_left (by rw [h.hl]; exact e), h.at_ j e (by rw [h.hl]; exact e), keep _ (List.getElem_mem e)]
    · have e' : j = told.length := by simp at hj; omega
      subst e'
      rw [List.getElem_append_right (Nat.le_refl _), List.getElem_append_right (by rw [h.hl]; exact Nat.le_refl _)]
      simp only [Nat.sub_self, List.getElem_cons_zero, h.hl]
      rw [hasM_in (by simpa using hkg) (by simpa using hkb)]
      simp
  · by_cases e : j < told.length
    · rw [List.getElem_append_left e, List.getElem_append_left (Nat.lt_trans hm e)]
      exact h.ap m j hm e
    · have e' : j = told.length := by simp at hj; omega
      subst e'
      rw [List.getElem_append_left hm, List.getElem_append_right (Nat.le_refl _)]
      simp only [Nat.sub_self, List.getElem_cons_zero]
      intro ee
      obtain ⟨a, ha, hx1, hx2⟩ := h.old told[m] (List.getElem_mem hm)
      rw [ee] at hx1 hx2
      simp only at hx1 hx2
      have : a = k := by omega
      subst this
      omega
  · rcases List.mem_append.1 hx with hx | hx
    · obtain ⟨a, ha, hx1, hx2⟩ := h.old x hx
      refine ⟨a, by simpa using ha, hx1, ?_⟩
      rw [List.getElem_set]
      split
      · rename_i e; subst e; omega
      · exact hx2
    · simp only [List.mem_singleton] at hx
      subst hx
      exact ⟨k, by simpa using hkg, rfl, by simp⟩

theorem inv_free {N : Nat} {gs : List Int} {bs : List Bool} {told : List (Int × Int)} {has : List Bool} (h : Inv N gs bs told has) {k : Nat} (hk : k < told.length) :
    Inv N gs (fb gs bs told[k].1 told[k].2) told (has.set k false) := by
  have hk' : k < has.length := by rw [h.hl]; exact hk
  have hat := h.at_ k hk hk'
  refine ⟨h.gl, by rw [← h.bl]; unfold fb; split <;> simp, by simp [h.hl], fun j hj hj' => ?_, h.ap, h.old⟩
  have hjh : j < has.length := by rw [h.hl]; exact hj
  rw [List.getElem_set]
  cases hx : hasM gs bs told[k].1 told[k].2 with
  | false =>
    have e : fb gs bs told[k].1 told[k].2 = bs := by unfold fb; rw [if_neg (by simp [hx])]
    rw [e]
    split
    · rename_i e; subst e; exact hx.symm
    · exact h.at_ j hj hjh
  | true =>
    obtain ⟨a, ha, hx1, hx2⟩ := h.old told[k] (List.getElem_mem hk)
    have hab : a < bs.length := by rw [h.bl, ← h.gl]; exact ha
    have e : fb gs bs told[k].1 told[k].2 = bs.set a false := by unfold fb; rw [if_pos hx, hx1]; simp
    have hga : gs[a] = told[k].2 := by
      rw [hx1, hasM_in ha hab] at hx
      simp at hx
      exact hx.2
    rw [e]
    split
    · rename_i e; subst e
      rw [hx1, hasM_in ha (by simpa using hab)]
      simp
    · rename_i hne
      obtain ⟨a', ha', hy1, hy2⟩ := h.old told[j] (List.getElem_mem hj)
      rw [h.at_ j hj hjh, hy1]
      by_cases e' : a' = a
      · subst e'
        have hg2 : told[j].2 ≠ gs[a'] := by
          intro ee
          have hsame : told[j] = told[k] := Prod.ext (by rw [hy1, hx1]) (by rw [ee, hga])
          rcases Nat.lt_or_gt_of_ne hne with hlt | hgt
          · exact h.ap k j hlt hj hsame.symm
          · exact h.ap j k hgt hk hsame
        rw [hasM_in (gs := gs) (bs := bs) ha' hab, hasM_in (gs := gs) (bs := bs.set a' false) ha' (by simpa using hab)]
        have : decide (gs[a'] = told[j].2) = false := by simpa using fun e => hg2 e.symm
        rw [this]
        simp
      · exact (hasM_other (gs := gs) (gs' := gs) rfl (by simp) e' (fun _ _ => rfl) (fun i hi => by rw [List.getElem?_set_ne (Ne.symm hi)])).symm

theorem ok_len {N : Nat} {gs : List Int} {bs : List Bool} (hg : gs.length = N) (hb : bs.length = N) : tOk gs bs = decide (lenM gs bs < N) := by
  have e : min gs.length bs.length = bs.length := by omega
  have hle : lenM gs bs ≤ N := by unfold lenM; rw [e, List.take_length, ← hb]; exact List.count_le_length
  unfold tOk
  cases hf : freeIn gs bs with
  | none =>
    have hall : ∀ x ∈ bs, true = x := by
      unfold freeIn freeAt at hf
      rw [e, List.take_length, List.findIdx?_eq_none_iff] at hf
      intro x hx
      have := hf x hx
      cases x <;> simp at this ⊢
    have : lenM gs bs = N := by unfold lenM; rw [e, List.take_length, List.count_eq_length.2 hall, hb]
    simp [this]
  | some k =>
    obtain ⟨_, hkb, _⟩ := freeIn_lt hf
    have hbk := freeIn_bs hf hkb
    have : lenM gs bs ≠ N := by
      unfold lenM
      rw [e, List.take_length, ← hb]
      intro ee
      have := List.count_eq_length.1 ee bs[k] (List.getElem_mem hkb)
      rw [hbk] at this
      cases this
    simp; omega

end Go.Proofs.Ytflfmcclihahmaa
