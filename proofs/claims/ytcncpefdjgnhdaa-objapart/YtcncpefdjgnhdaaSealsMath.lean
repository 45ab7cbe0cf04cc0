/-
  The mathematics of ObjSeals: what was put is sealed.
-/
import Derived.Test.YtcncpefdjgnhdaaAudn
import Derived.Test.YtcncpefdjgnhdaaMakes
import Derived.Test.YtcncpefdjgnhdaaPutr
namespace Go.Proofs.Ytcncpefdjgnhdaa
open Go.ChangeShapes Go.WideShapes Go.ChangeAt Go.RowKit
attribute [local go_sem ↓] Go.wp_at_zero Go.wp_at_succ

theorem turned_sealed (t : Th) : turnedT (sealedT t) = false := by
  have h := sealOf_s t (sealOf t)
  unfold turnedT sealedT
  simp only [ne_eq, decide_eq_false_iff_not, Classical.not_not]
  exact h.symm
theorem aud_none {l : List Th} : ∀ n, (∀ i, i < n → anew (l.getD i th0) = false) → audP l n = [] ∧ audW l n = []
  | 0, _ => ⟨rfl, rfl⟩
  | n + 1, h => by
    have h1 := aud_none n (fun i hi => h i (by omega))
    have h2 := h n (by omega)
    rw [audP, audW, h1.1, h1.2, h2]
    exact ⟨rfl, rfl⟩
theorem map_none {l : List Th} (h : ∀ i, i < l.length → anew (l.getD i th0) = false) : l.map audT = l := by
  apply List.ext_getElem (by simp)
  intro i h1 h2
  have h3 := h i h2
  rw [show l.getD i th0 = l[i] by simp [List.getD_eq_getElem?_getD, h2]] at h3
  rw [List.getElem_map]
  unfold audT
  rw [h3]
  rfl
theorem adR_none {N : Nat} {T : Tb} (hw : Wf N T) (h : ∀ i, i < 12 → anew (T.T.getD i th0) = false) : adR T = T := by
  unfold adR
  rw [map_none (fun i hi => h i (by rw [hw.tl] at hi; exact hi))]
/-- one thing alone -/
theorem one_t (k : Int) (hk : k = 1 ∨ k = 2 ∨ k = 3) : mkOk newT k = true ∧ mkA newT k = 0 ∧ mkG newT k = 1 ∧ isThere (mkR newT k).T 0 = true ∧ turnedT ((mkR newT k).T.getD 0 th0) = false ∧ ((mkR newT k).T.getD 0 th0).k = k ∧ ((mkR newT k).T.getD 0 th0).a = 0 ∧ ((mkR newT k).T.getD 0 th0).g = 1 ∧ (∀ i, i < 12 → i ≠ 0 → ((mkR newT k).T.getD i th0).k = 0) := by
  rcases hk with rfl | rfl | rfl <;> decide +kernel
/-- behind Put nothing begins anew -/
theorem put_none (k : Int) (hk : k = 1 ∨ k = 2 ∨ k = 3) (c h : Int) (L W : List Int) (b : Nat) (F : List Wt) : ∀ i, i < 12 → anew ((ptR (mkR newT k) 0 c h L W b F).T.getD i th0) = false := by
  obtain ⟨_, _, _, h4, h5, _, _, _, h9⟩ := one_t k hk
  intro i hi
  have hl := (mkR_wf new_wf k).tl
  have e : (ptR (mkR newT k) 0 c h L W b F).T = (mkR newT k).T.set 0 (putT ((mkR newT k).T.getD 0 th0) c h L W b F) := by
    unfold ptR
    rw [h4]
    rfl
  rw [e]
  by_cases h0 : i = 0
  · subst h0
    have e2 : ((mkR newT k).T.set 0 (putT ((mkR newT k).T.getD 0 th0) c h L W b F)).getD 0 th0 = putT ((mkR newT k).T.getD 0 th0) c h L W b F := by
      rw [List.getD_eq_getElem?_getD, List.getElem?_set_self (by omega)]
      rfl
    rw [e2]
    unfold putT
    rw [h5]
    unfold anew
    rw [if_neg (by decide), turned_sealed, Bool.and_false]
  · have e2 : ((mkR newT k).T.set 0 (putT ((mkR newT k).T.getD 0 th0) c h L W b F)).getD i th0 = (mkR newT k).T.getD i th0 := by
      rw [List.getD_eq_getElem?_getD, List.getElem?_set_ne (by omega), ← List.getD_eq_getElem?_getD]
    rw [e2]
    unfold anew
    rw [h9 i hi h0]
    rfl
/-- what lies at place 0 behind Put -/
theorem put_at (k : Int) (hk : k = 1 ∨ k = 2 ∨ k = 3) (c h : Int) (L W : List Int) (b : Nat) (F : List Wt) : ∃ s, (ptR (mkR newT k) 0 c h L W b F).T.getD 0 th0 = ⟨k, 0, 1, c, h, L, W, b, F, s⟩ := by
  obtain ⟨_, _, _, h4, h5, h6, h7, h8, _⟩ := one_t k hk
  have hl := (mkR_wf new_wf k).tl
  refine ⟨sealOf ⟨k, 0, 1, c, h, L, W, b, F, ((mkR newT k).T.getD 0 th0).s⟩, ?_⟩
  have e : (ptR (mkR newT k) 0 c h L W b F).T = (mkR newT k).T.set 0 (putT ((mkR newT k).T.getD 0 th0) c h L W b F) := by
    unfold ptR
    rw [h4]
    rfl
  rw [e, List.getD_eq_getElem?_getD, List.getElem?_set_self (by omega)]
  show putT ((mkR newT k).T.getD 0 th0) c h L W b F = _
  unfold putT
  rw [h5, if_neg (by decide)]
  unfold sealedT
  rw [h6, h7, h8]
end Go.Proofs.Ytcncpefdjgnhdaa
