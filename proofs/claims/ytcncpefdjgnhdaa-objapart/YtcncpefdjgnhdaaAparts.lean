/-
  The mathematics of ObjApart: what is put, what is turned, what begins anew.
-/
import Derived.Test.YtcncpefdjgnhdaaSealsMath
import Derived.Test.YtcncpefdjgnhdaaNlts
namespace Go.Proofs.Ytcncpefdjgnhdaa
open Go.ChangeShapes Go.WideShapes Go.ChangeAt Go.RowKit
attribute [local go_sem ↓] Go.wp_at_zero Go.wp_at_succ

/-- what is put at j -/
structure Ct (j : Nat) (t : Th) : Prop where
  c : t.c = 3
  h : t.h = 2
  L : t.L = [(j : Int)]
  W : t.W = [(j : Int) + 1]
  b : t.b = 5
  F : t.F = []
  s : t.s = sealOf t
def putc (t : Th) (j : Nat) : Th := putT t 3 2 [(j : Int)] [(j : Int) + 1] 5 []
theorem not_turned {t : Th} (h : t.s = sealOf t) : turnedT t = false := by unfold turnedT; simp [h]
theorem turned_not {t : Th} (h : turnedT t = false) : t.s = sealOf t := by unfold turnedT at h; simpa using h
theorem is_turned {t : Th} (h : t.s = sealOf t) : turnedT (turnT t) = true := by
  have e : sealOf (turnT t) = sealOf t := rfl
  have e2 : (turnT t).s = comp t.s := rfl
  unfold turnedT
  rw [e, e2, decide_eq_true_eq, ← h]
  exact comp_ne (by rw [h]; exact sealOf_lt _)
theorem putc_ct {t : Th} (j : Nat) (h : turnedT t = false) : Ct j (putc t j) := by
  have e : putc t j = sealedT { t with c := 3, h := 2, L := [(j : Int)], W := [(j : Int) + 1], b := 5, F := [] } := by
    unfold putc putT
    rw [h]
    rfl
  rw [e]
  exact ⟨rfl, rfl, rfl, rfl, rfl, rfl, rfl⟩
theorem putc_k (t : Th) (j : Nat) : (putc t j).k = t.k := (putT_kag t 3 2 [(j : Int)] [(j : Int) + 1] 5 []).1
theorem Ct.eta {j : Nat} {t : Th} (h : Ct j t) : ({ t with c := 3, h := 2, L := [(j : Int)], W := [(j : Int) + 1], b := 5, F := [] } : Th) = t := by
  obtain ⟨k, a, g, c, hh, L, W, b, F, s⟩ := t
  obtain ⟨h1, h2, h3, h4, h5, h6, _⟩ := h
  dsimp only at h1 h2 h3 h4 h5 h6
  subst h1 h2 h3 h4 h5 h6
  rfl
theorem putc_same {j : Nat} {t : Th} (h : Ct j t) : putc t j = t := by
  unfold putc putT
  rw [not_turned h.s, if_neg (by decide), h.eta]
  unfold sealedT
  rw [← h.s]
theorem putc_turned {j : Nat} {t : Th} (h : Ct j t) : putc (turnT t) j = turnT t := by
  have e : ({ turnT t with c := 3, h := 2, L := [(j : Int)], W := [(j : Int) + 1], b := 5, F := [] } : Th) = turnT t := by
    have := h.eta
    unfold turnT
    rw [← this]
  unfold putc putT
  rw [is_turned h.s, if_pos rfl, e]
  have e2 : sealedT (turnT t) = t := by
    have e3 : sealOf (turnT t) = sealOf t := rfl
    unfold sealedT
    rw [e3, ← h.s]
    rfl
  rw [e2]
/-- nothing of it is turned -/
def Nt0 (T : Tb) : Prop := ∀ j, j < 12 → (T.T.getD j th0).k ≠ 0 → turnedT (T.T.getD j th0) = false
theorem nt_new : Nt0 newT := fun j hj hk => by
  have : newT.T.getD j th0 = th0 := getD_rep 12 j th0
  rw [this] at hk
  exact absurd rfl hk
theorem nt_make {N : Nat} {T : Tb} (hw : Wf N T) (h : Nt0 T) (k : Int) : Nt0 (mkR T k) := by
  intro j hj hk
  unfold mkR at hk ⊢
  by_cases hok : mkOk T k = true
  · rw [if_pos hok] at hk ⊢
    unfold mkT at hk ⊢
    simp only [getD_set_eq, hw.tl] at hk ⊢
    by_cases e : j = (Slo.tAt T.G T.I).toNat ∧ (Slo.tAt T.G T.I).toNat < 12
    · rw [if_pos e]
      exact turned_sealed _
    · rw [if_neg e] at hk ⊢
      exact h j hj hk
  · rw [if_neg hok] at hk ⊢
    exact h j hj hk
/-- the first n are put -/
def Pu (n : Nat) (T : Tb) : Prop := Nt0 T ∧ ∀ j, j < n → j < 12 → (T.T.getD j th0).k ≠ 0 → Ct j (T.T.getD j th0)
theorem pu_zero {T : Tb} (h : Nt0 T) : Pu 0 T := ⟨h, fun _ hj => absurd hj (Nat.not_lt_zero _)⟩
def ptc (T : Tb) (n : Nat) : Tb := ptR T n 3 2 [(n : Int)] [(n : Int) + 1] 5 []
theorem ptc_th {N : Nat} {T : Tb} (hw : Wf N T) (n j : Nat) : (ptc T n).T.getD j th0 = if j = n ∧ j < 12 ∧ (T.T.getD j th0).k ≠ 0 then putc (T.T.getD j th0) j else T.T.getD j th0 := by
  unfold ptc ptR
  by_cases ht : isThere T.T (n : Int) = true
  · rw [if_pos ht]
    unfold isThere at ht
    rw [decide_eq_true_eq, Int.toNat_natCast] at ht
    show (T.T.set (n : Int).toNat _).getD j th0 = _
    rw [getD_set_eq, hw.tl, Int.toNat_natCast]
    by_cases e : j = n
    · subst e
      rw [if_pos ⟨rfl, by omega⟩, if_pos ⟨rfl, by omega, ht.2.2⟩]
      rfl
    · rw [if_neg (by intro hc; exact e hc.1), if_neg (by intro hc; exact e hc.1)]
  · rw [if_neg ht]
    unfold isThere at ht
    rw [decide_eq_true_eq, Int.toNat_natCast] at ht
    by_cases e : j = n ∧ j < 12 ∧ (T.T.getD j th0).k ≠ 0
    · exact absurd ⟨by omega, by omega, by rw [← e.1]; exact e.2.2⟩ ht
    · rw [if_neg e]
theorem ptc_wf {N : Nat} {T : Tb} (hw : Wf N T) (n : Nat) : Wf N (ptc T n) := ptR_wf hw _ _ _ _ _ _ _
theorem pu_step {N : Nat} {T : Tb} (hw : Wf N T) {n : Nat} (h : Pu n T) : Pu (n + 1) (ptc T n) := by
  refine ⟨fun j hj hk => ?_, fun j hjn hj hk => ?_⟩
  · rw [ptc_th hw] at hk ⊢
    by_cases e : j = n ∧ j < 12 ∧ (T.T.getD j th0).k ≠ 0
    · rw [if_pos e]
      exact not_turned (putc_ct j (h.1 j hj e.2.2)).s
    · rw [if_neg e] at hk ⊢
      exact h.1 j hj hk
  · rw [ptc_th hw] at hk ⊢
    by_cases e : j = n ∧ j < 12 ∧ (T.T.getD j th0).k ≠ 0
    · rw [if_pos e]
      exact putc_ct j (h.1 j hj e.2.2)
    · rw [if_neg e] at hk ⊢
      exact h.2 j (by by_cases e2 : j = n; exact absurd ⟨e2, hj, hk⟩ e; omega) hj hk
/-- what was (P), the first n of them turned, if f says so -/
structure Mx (f : Nat → Bool) (P : Tb) (n : Nat) (T : Tb) : Prop where
  th : ∀ j, j < 12 → T.T.getD j th0 = if j < n ∧ f j = true ∧ (P.T.getD j th0).k ≠ 0 then turnT (P.T.getD j th0) else P.T.getD j th0
theorem Mx.zero (f : Nat → Bool) (P : Tb) : Mx f P 0 P := ⟨fun j _ => by rw [if_neg (by omega)]⟩
theorem turnT_k (t : Th) : (turnT t).k = t.k := rfl
theorem Mx.k {f : Nat → Bool} {P T : Tb} {n : Nat} (h : Mx f P n T) {j : Nat} (hj : j < 12) : (T.T.getD j th0).k = (P.T.getD j th0).k := by
  rw [h.th j hj]
  split <;> rfl
theorem tnR_th {N : Nat} {T : Tb} (hw : Wf N T) (n j : Nat) : (tnR T n).T.getD j th0 = if j = n ∧ j < 12 ∧ (T.T.getD j th0).k ≠ 0 then turnT (T.T.getD j th0) else T.T.getD j th0 := by
  unfold tnR
  by_cases ht : isThere T.T (n : Int) = true
  · rw [if_pos ht]
    unfold isThere at ht
    rw [decide_eq_true_eq, Int.toNat_natCast] at ht
    show (T.T.set (n : Int).toNat _).getD j th0 = _
    rw [getD_set_eq, hw.tl, Int.toNat_natCast]
    by_cases e : j = n
    · subst e
      rw [if_pos ⟨rfl, by omega⟩, if_pos ⟨rfl, by omega, ht.2.2⟩]
    · rw [if_neg (by intro hc; exact e hc.1), if_neg (by intro hc; exact e hc.1)]
  · rw [if_neg ht]
    unfold isThere at ht
    rw [decide_eq_true_eq, Int.toNat_natCast] at ht
    by_cases e : j = n ∧ j < 12 ∧ (T.T.getD j th0).k ≠ 0
    · exact absurd ⟨by omega, by omega, by rw [← e.1]; exact e.2.2⟩ ht
    · rw [if_neg e]
theorem Mx.turn {N : Nat} {f : Nat → Bool} {P T : Tb} {n : Nat} (h : Mx f P n T) (hw : Wf N T) (hf : f n = true) : Mx f P (n + 1) (tnR T n) := ⟨fun j hj => by
  rw [tnR_th hw, h.k hj]
  by_cases e : j = n
  · subst e
    by_cases hk : (P.T.getD j th0).k ≠ 0
    · rw [if_pos ⟨rfl, hj, hk⟩, if_pos ⟨by omega, hf, hk⟩, h.th j hj, if_neg (by omega)]
    · rw [if_neg (by intro hc; exact hk hc.2.2), if_neg (by intro hc; exact hk hc.2.2), h.th j hj, if_neg (by omega)]
  · rw [if_neg (by intro hc; exact e hc.1), h.th j hj]
    by_cases e2 : j < n ∧ f j = true ∧ (P.T.getD j th0).k ≠ 0
    · rw [if_pos e2, if_pos ⟨by omega, e2.2⟩]
    · rw [if_neg e2, if_neg (by intro hc; exact e2 ⟨by omega, hc.2⟩)]⟩
theorem Mx.skip {f : Nat → Bool} {P T : Tb} {n : Nat} (h : Mx f P n T) (hf : f n = false) : Mx f P (n + 1) T := ⟨fun j hj => by
  rw [h.th j hj]
  by_cases e : j = n
  · subst e
    rw [if_neg (by omega), if_neg (by rw [hf]; simp)]
  · by_cases e2 : j < n ∧ f j = true ∧ (P.T.getD j th0).k ≠ 0
    · rw [if_pos e2, if_pos ⟨by omega, e2.2⟩]
    · rw [if_neg e2, if_neg (by intro hc; exact e2 ⟨by omega, hc.2⟩)]⟩
theorem Mx.put {N : Nat} {f : Nat → Bool} {P T : Tb} {n m : Nat} (h : Mx f P n T) (hw : Wf N T) (hP : Pu 12 P) : Mx f P n (ptc T m) := ⟨fun j hj => by
  rw [ptc_th hw, h.k hj]
  by_cases e : j = m ∧ j < 12 ∧ (P.T.getD j th0).k ≠ 0
  · have hc := hP.2 j hj hj e.2.2
    rw [if_pos e, h.th j hj]
    by_cases e2 : j < n ∧ f j = true ∧ (P.T.getD j th0).k ≠ 0
    · rw [if_pos e2, putc_turned hc]
    · rw [if_neg e2, putc_same hc]
  · rw [if_neg e, h.th j hj]⟩
theorem Mx.anw {f : Nat → Bool} {P T : Tb} (h : Mx f P 12 T) (hP : Pu 12 P) {j : Nat} (hj : j < 12) : anew (T.T.getD j th0) = (f j && decide ((P.T.getD j th0).k ≠ 0)) := by
  unfold Go.Proofs.Ytcncpefdjgnhdaa.anew
  rw [h.k hj, h.th j hj]
  by_cases hk : (P.T.getD j th0).k ≠ 0
  · have hc := hP.2 j hj hj hk
    cases hf : f j with
    | false =>
      rw [if_neg (by simp), not_turned hc.s]
      simp
    | true =>
      rw [if_pos ⟨hj, rfl, hk⟩, is_turned hc.s]
      simp
  · rw [decide_eq_false hk]
    simp
theorem audP_at {l : List Th} : ∀ n j, j < n → anew (l.getD j th0) = true → (audP l j).length < (audP l n).length ∧ (audP l n).getD (audP l j).length 0 = (j : Int)
  | 0, j, h, _ => absurd h (Nat.not_lt_zero _)
  | n + 1, j, h, ha => by
    rw [audP, List.length_append]
    by_cases e : j = n
    · subst e
      rw [if_pos ha]
      refine ⟨by simp, ?_⟩
      simp [List.getD_eq_getElem?_getD]
    · obtain ⟨h1, h2⟩ := audP_at n j (by omega) ha
      refine ⟨by omega, ?_⟩
      rw [List.getD_eq_getElem?_getD, List.getElem?_append_left h1, ← List.getD_eq_getElem?_getD]
      exact h2
theorem audW_at {l : List Th} : ∀ n j, j < n → anew (l.getD j th0) = true → (audW l n).getD (audP l j).length [] = waitT (l.getD j th0)
  | 0, j, h, _ => absurd h (Nat.not_lt_zero _)
  | n + 1, j, h, ha => by
    rw [audW]
    by_cases e : j = n
    · subst e
      rw [if_pos ha, List.getD_eq_getElem?_getD, List.getElem?_append_right (by rw [audW_len]; exact Nat.le_refl _), audW_len]
      simp
    · obtain ⟨h1, _⟩ := audP_at n j (by omega) ha
      rw [List.getD_eq_getElem?_getD, List.getElem?_append_left (by rw [audW_len]; exact h1), ← List.getD_eq_getElem?_getD]
      exact audW_at n j (by omega) ha
theorem audP_step (l : List Th) (n : Nat) : (audP l (n + 1)).length = (audP l n).length + (if anew (l.getD n th0) then 1 else 0) := by
  rw [audP, List.length_append]
  split <;> rfl
theorem ad_th (T : Tb) (j : Nat) : (adR T).T.getD j th0 = audT (T.T.getD j th0) := getD_map_aud T.T j
/-- nothing begins anew again -/
theorem again_none {f : Nat → Bool} {P T : Tb} (h : Mx f P 12 T) (hP : Pu 12 P) : ∀ i, i < 12 → anew ((adR T).T.getD i th0) = false := by
  intro j hj
  rw [ad_th]
  have ha := h.anw hP hj
  unfold audT
  by_cases e : anew (T.T.getD j th0) = true
  · rw [if_pos e]
    unfold Go.Proofs.Ytcncpefdjgnhdaa.anew freshT
    rw [turned_sealed]
    simp
  · rw [if_neg e]
    simpa using e
theorem wait_ct {j : Nat} {t : Th} (h : Ct j t) : waitT (turnT t) = [(j : Int) + 1] := by
  unfold waitT turnT
  rw [h.W, h.F]
  rfl
theorem Mx.is {f : Nat → Bool} {P T : Tb} (h : Mx f P 12 T) (hP : Pu 12 P) {j : Nat} (hj : j < 12) (hf : f j = true) (hk : (P.T.getD j th0).k ≠ 0) : anew (T.T.getD j th0) = true ∧ waitT (T.T.getD j th0) = [(j : Int) + 1] ∧ (adR T).T.getD j th0 = freshT (P.T.getD j th0).k (P.T.getD j th0).a (P.T.getD j th0).g 3 := by
  have hc := hP.2 j hj hj hk
  have ha : anew (T.T.getD j th0) = true := by rw [h.anw hP hj, hf]; simpa using hk
  refine ⟨ha, ?_, ?_⟩
  · rw [h.th j hj, if_pos ⟨hj, hf, hk⟩]
    exact wait_ct hc
  · rw [ad_th]
    unfold audT
    rw [if_pos ha, h.th j hj, if_pos ⟨hj, hf, hk⟩]
    show freshT (P.T.getD j th0).k (P.T.getD j th0).a (P.T.getD j th0).g (P.T.getD j th0).c = _
    rw [hc.c]
theorem Mx.not {f : Nat → Bool} {P T : Tb} (h : Mx f P 12 T) (hP : Pu 12 P) {j : Nat} (hj : j < 12) (hn : ¬ (f j = true ∧ (P.T.getD j th0).k ≠ 0)) : anew (T.T.getD j th0) = false ∧ (adR T).T.getD j th0 = P.T.getD j th0 := by
  have ha : anew (T.T.getD j th0) = false := by
    rw [h.anw hP hj]
    cases hf : f j with
    | false => rfl
    | true =>
      rw [Bool.true_and, decide_eq_false_iff_not]
      intro hk
      exact hn ⟨hf, hk⟩
  refine ⟨ha, ?_⟩
  rw [ad_th]
  unfold audT
  rw [ha, if_neg (by decide), h.th j hj, if_neg (by intro hc; exact hn hc.2)]
theorem fresh_parts (k a g : Int) : (freshT k a g 3).k = k ∧ (freshT k a g 3).a = a ∧ (freshT k a g 3).g = g ∧ (freshT k a g 3).c = (if k = 1 then 3 else 0) ∧ (freshT k a g 3).h = 0 ∧ (freshT k a g 3).L = [] ∧ (freshT k a g 3).b = 0 := ⟨rfl, rfl, rfl, rfl, rfl, rfl, rfl⟩
end Go.Proofs.Ytcncpefdjgnhdaa
