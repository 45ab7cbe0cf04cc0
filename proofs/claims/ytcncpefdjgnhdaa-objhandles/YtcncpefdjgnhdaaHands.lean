/-
  The mathematics of ObjHandles: what handles are had, which kinds they have.
-/
import Derived.Test.YtcncpefdjgnhdaaModel
import Derived.DataShut
namespace Go.Proofs.Ytcncpefdjgnhdaa
open Go.ChangeShapes Go.WideShapes Go.ChangeAt Go.RowKit
attribute [local go_sem ↓] Go.wp_at_zero Go.wp_at_succ

theorem has_in {N : Nat} {T : Tb} (h : Wf N T) (m : Nat) (hm : m < 12) (g : Int) : Slo.hasM T.G T.I (m : Int) g = (T.I.getD m false && decide (T.G.getD m 0 = g)) := by
  have hg : m < T.G.length := by rw [h.gl]; exact hm
  have hb : m < T.I.length := by rw [h.il]; exact hm
  rw [Slo.hasM_in hg hb]
  simp [List.getD_eq_getElem?_getD, hg, hb]
def hh (hs : List (Int × Int)) (i : Nat) : Int × Int := hs.getD i (0, 0)
structure Hi (N : Nat) (T : Tb) (hs : List (Int × Int)) (bs : List Bool) (ks : List Int) : Prop where
  wf : Wf N T
  lb : bs.length = hs.length
  lk : ks.length = hs.length
  hd : ∀ i, i < hs.length → ∃ a : Nat, a < 12 ∧ (hh hs i).1 = a ∧ 1 ≤ (hh hs i).2 ∧ (hh hs i).2 ≤ T.G.getD a 0
  has : ∀ i, i < hs.length → bs.getD i false = Slo.hasM T.G T.I (hh hs i).1 (hh hs i).2
  kd : ∀ i, i < hs.length → bs.getD i false = true → (T.T.getD (hh hs i).1.toNat th0).k = ks.getD i 0
  k2 : ∀ i, i < hs.length → ks.getD i 0 = 2 ∨ ks.getD i 0 = 3
  ne : ∀ i j, i < j → j < hs.length → hh hs i ≠ hh hs j
theorem Hi.nil : Hi 0 newT [] [] [] := ⟨new_wf, rfl, rfl, fun i h => by simp at h, fun i h => by simp at h, fun i h => by simp at h, fun i h => by simp at h, fun i j _ h => by simp at h⟩
theorem Hi.mono {N M : Nat} {T : Tb} {hs : List (Int × Int)} {bs : List Bool} {ks : List Int} (h : Hi N T hs bs ks) (hM : N ≤ M) : Hi M T hs bs ks := { h with wf := h.wf.mono hM }
theorem Hi.no {N : Nat} {T : Tb} {hs : List (Int × Int)} {bs : List Bool} {ks : List Int} (h : Hi N T hs bs ks) {k : Int} (hk : mkOk T k = false) : Hi (N + 1) (mkR T k) hs bs ks := by
  unfold mkR
  rw [hk]
  exact h.mono (by omega)
theorem getD_snoc {α : Type} (l : List α) (x d : α) (i : Nat) : (l ++ [x]).getD i d = if i < l.length then l.getD i d else if i = l.length then x else d := by
  simp only [List.getD_eq_getElem?_getD, List.getElem?_append]
  by_cases h : i < l.length
  · simp [h]
  · by_cases h2 : i = l.length
    · subst h2; simp
    · rw [if_neg h, if_neg h, if_neg h2, List.getElem?_eq_none (by simp; omega)]
      rfl
theorem mk_parts {N : Nat} {T : Tb} (h : Wf N T) {k : Int} (hok : mkOk T k = true) : ∃ j : Nat, j < 12 ∧ T.I.getD j false = false ∧ mkA T k = j ∧ mkG T k = T.G.getD j 0 + 1 ∧ mkR T k = ⟨T.G.set j (T.G.getD j 0 + 1), T.I.set j true, T.T.set j (freshT k j (T.G.getD j 0 + 1) 8)⟩ := by
  have hok2 := hok
  unfold mkOk at hok2
  rw [Bool.and_eq_true] at hok2
  have h1 := hok2.1
  unfold Slo.tOk at h1
  obtain ⟨j, hj⟩ := Option.isSome_iff_exists.1 h1
  obtain ⟨hj12, hjI⟩ := free_of h hj
  have eG : Slo.tg T.G T.I = T.G.set j (T.G.getD j 0 + 1) := by unfold Slo.tg; rw [hj]
  have eB : Slo.tb T.G T.I = T.I.set j true := by unfold Slo.tb; rw [hj]
  have eA : Slo.tAt T.G T.I = (j : Int) := by unfold Slo.tAt; rw [hj]
  have eH : Slo.tGen T.G T.I = T.G.getD j 0 + 1 := by unfold Slo.tGen; rw [hj]
  refine ⟨j, hj12, hjI, by unfold mkA; rw [hok, eA]; rfl, by unfold mkG; rw [hok, eH]; rfl, ?_⟩
  unfold mkR mkT
  rw [hok, eG, eB, eA, eH]
  rfl
theorem fresh_k (k a g c : Int) : (freshT k a g c).k = k := rfl
theorem Hi.new {N : Nat} {T : Tb} {hs : List (Int × Int)} {bs : List Bool} {ks : List Int} (h : Hi N T hs bs ks) {k : Int} (hk : mkOk T k = true) {i : Nat} (hi : i < hs.length) : hh hs i ≠ (mkA T k, mkG T k) := by
  obtain ⟨j, hj, _, eA, eG, _⟩ := mk_parts h.wf hk
  obtain ⟨a, ha, e1, _, e2⟩ := h.hd i hi
  rw [eA, eG]
  intro e
  rw [e] at e1 e2
  have : a = j := by dsimp only at e1; omega
  subst this
  dsimp only at e2
  omega
theorem Hi.make {N : Nat} {T : Tb} {hs : List (Int × Int)} {bs : List Bool} {ks : List Int} (h : Hi N T hs bs ks) {k : Int} (hk2 : k = 2 ∨ k = 3) (hk : mkOk T k = true) : Hi (N + 1) (mkR T k) (hs ++ [(mkA T k, mkG T k)]) (bs ++ [true]) (ks ++ [k]) := by
  have hnew := fun i hi => h.new (i := i) hk hi
  have wf2 : Wf (N + 1) (mkR T k) := mkR_wf h.wf k
  obtain ⟨j, hj, hjI, eA, eG, eT⟩ := mk_parts h.wf hk
  have g1 : (mkR T k).G = T.G.set j (T.G.getD j 0 + 1) := by rw [eT]
  have g2 : (mkR T k).I = T.I.set j true := by rw [eT]
  have g3 : (mkR T k).T = T.T.set j (freshT k j (T.G.getD j 0 + 1) 8) := by rw [eT]
  have q0 := mem_getD h.wf j
  have hGj : ∀ m, (mkR T k).G.getD m 0 = if m = j then T.G.getD j 0 + 1 else T.G.getD m 0 := by
    intro m
    rw [g1, getD_set_eq, h.wf.gl]
    simp [hj]
  have hIj : ∀ m, (mkR T k).I.getD m false = if m = j then true else T.I.getD m false := by
    intro m
    rw [g2, getD_set_eq, h.wf.il]
    simp [hj]
  have hTj : ∀ m, ((mkR T k).T.getD m th0).k = if m = j then k else (T.T.getD m th0).k := by
    intro m
    rw [g3, getD_set_eq, h.wf.tl]
    by_cases e : m = j
    · simp [e, hj, fresh_k]
    · simp [e]
  have hold : ∀ i, i < hs.length → Slo.hasM (mkR T k).G (mkR T k).I (hh hs i).1 (hh hs i).2 = Slo.hasM T.G T.I (hh hs i).1 (hh hs i).2 := by
    intro i hi
    obtain ⟨a, ha, e1, _, e2⟩ := h.hd i hi
    rw [e1, has_in wf2 a ha, has_in h.wf a ha, hGj, hIj]
    by_cases e : a = j
    · subst e
      rw [if_pos rfl, if_pos rfl, hjI, Bool.true_and, Bool.false_and, decide_eq_false_iff_not]
      omega
    · rw [if_neg e, if_neg e]
  have el : ∀ i, i < hs.length → hh (hs ++ [(mkA T k, mkG T k)]) i = hh hs i := fun i hi => by unfold hh; rw [getD_snoc, if_pos hi]
  have er : hh (hs ++ [(mkA T k, mkG T k)]) hs.length = (mkA T k, mkG T k) := by unfold hh; rw [getD_snoc, if_neg (Nat.lt_irrefl _), if_pos rfl]
  have split : ∀ i, i < (hs ++ [(mkA T k, mkG T k)]).length → i < hs.length ∨ i = hs.length := fun i hi => by simp at hi; omega
  refine ⟨wf2, by simp [h.lb], by simp [h.lk], fun i hi => ?_, fun i hi => ?_, fun i hi hb => ?_, fun i hi => ?_, fun i i' hii hi => ?_⟩
  · rcases split i hi with hi | rfl
    · obtain ⟨a, ha, e1, e3, e2⟩ := h.hd i hi
      rw [el i hi]
      refine ⟨a, ha, e1, e3, ?_⟩
      rw [hGj]
      by_cases e : a = j
      · subst e; rw [if_pos rfl]; omega
      · rw [if_neg e]; exact e2
    · rw [er, eA, eG]
      refine ⟨j, hj, rfl, by show 1 ≤ T.G.getD j 0 + 1; omega, ?_⟩
      rw [hGj, if_pos rfl]
      exact Int.le_refl _
  · rcases split i hi with hi | rfl
    · rw [el i hi, hold i hi, getD_snoc, if_pos (by rw [h.lb]; exact hi)]
      exact h.has i hi
    · rw [er, eA, eG, has_in wf2 j hj, hGj, hIj, if_pos rfl, if_pos rfl, getD_snoc, if_neg (by rw [h.lb]; exact Nat.lt_irrefl _), if_pos h.lb.symm]
      simp
  · rcases split i hi with hi | rfl
    · rw [getD_snoc, if_pos (by rw [h.lb]; exact hi)] at hb
      rw [el i hi, getD_snoc, if_pos (by rw [h.lk]; exact hi), hTj]
      obtain ⟨a, ha, e1, _, e2⟩ := h.hd i hi
      have hhb := h.has i hi
      rw [hb, e1, has_in h.wf a ha] at hhb
      have e : ¬ a = j := by rintro rfl; rw [hjI] at hhb; simp at hhb
      rw [e1, if_neg (by simpa using e)]
      have := h.kd i hi hb
      rwa [e1] at this
    · rw [er, eA, getD_snoc, if_neg (by rw [h.lk]; exact Nat.lt_irrefl _), if_pos h.lk.symm, hTj, if_pos (by simp)]
  · rcases split i hi with hi | rfl
    · rw [getD_snoc, if_pos (by rw [h.lk]; exact hi)]
      exact h.k2 i hi
    · rw [getD_snoc, if_neg (by rw [h.lk]; exact Nat.lt_irrefl _), if_pos h.lk.symm]
      exact hk2
  · rcases split i' hi with hi | rfl
    · rw [el i (by omega), el i' hi]
      exact h.ne i i' hii hi
    · rw [el i hii, er]
      exact hnew i hii
theorem Hi.dropOk {N : Nat} {T : Tb} {hs : List (Int × Int)} {bs : List Bool} {ks : List Int} (h : Hi N T hs bs ks) {i : Nat} (hi : i < hs.length) : drOk T (hh hs i).1 (hh hs i).2 = bs.getD i false := by
  unfold drOk
  rw [← h.has i hi]
  cases hb : bs.getD i false with
  | false => rfl
  | true =>
    have h1 := h.kd i hi hb
    have h2 := h.k2 i hi
    rw [h1]
    rw [Bool.true_and, decide_eq_true_eq]
    omega
theorem Hi.drop {N : Nat} {T : Tb} {hs : List (Int × Int)} {bs : List Bool} {ks : List Int} (h : Hi N T hs bs ks) {i : Nat} (hi : i < hs.length) : Hi (N + 1) (drR T (hh hs i).1 (hh hs i).2) hs (bs.set i false) ks := by
  have hok := h.dropOk hi
  have wf2 : Wf N (drR T (hh hs i).1 (hh hs i).2) := drR_wf h.wf _ _
  refine Hi.mono ?_ (Nat.le_succ N)
  cases hb : bs.getD i false with
  | false =>
    rw [hb] at hok
    have e : drR T (hh hs i).1 (hh hs i).2 = T := by unfold drR; rw [hok]; rfl
    have e2 : bs.set i false = bs := by
      apply List.ext_getElem (by simp)
      intro n h1 h2
      rw [List.getElem_set]
      split
      · rename_i hn
        subst hn
        rw [List.getD_eq_getElem?_getD, List.getElem?_eq_getElem h2] at hb
        exact hb.symm
      · rfl
    rw [e, e2]
    exact h
  | true =>
    rw [hb] at hok
    obtain ⟨a, ha, e1, h1, e2⟩ := h.hd i hi
    have hhas := h.has i hi
    rw [hb] at hhas
    have hh2 := hhas.symm
    rw [e1, has_in h.wf a ha, Bool.and_eq_true, decide_eq_true_eq] at hh2
    have eT : drR T (hh hs i).1 (hh hs i).2 = ⟨T.G, T.I.set a false, T.T.set a th0⟩ := by
      unfold drR drT Slo.fb
      rw [hok, ← hhas, if_pos rfl, if_pos rfl, e1, Int.toNat_natCast]
    have g1 : (drR T (hh hs i).1 (hh hs i).2).G = T.G := by rw [eT]
    have g2 : (drR T (hh hs i).1 (hh hs i).2).I = T.I.set a false := by rw [eT]
    have g3 : (drR T (hh hs i).1 (hh hs i).2).T = T.T.set a th0 := by rw [eT]
    have hbl : i < bs.length := by rw [h.lb]; exact hi
    have other : ∀ m, m < hs.length → m ≠ i → ∀ a', (hh hs m).1 = ((a' : Nat) : Int) → a' = a → ¬ (hh hs m).2 = T.G.getD a 0 := by
      intro m hm hmi a' e3 e4 e5
      have e6 : hh hs m = hh hs i := by
        apply Prod.ext
        · rw [e3, e1, e4]
        · rw [e5, hh2.2]
      rcases Nat.lt_or_gt_of_ne hmi with h | h
      · exact (Hi.ne ‹_› m i h hi) e6
      · exact (Hi.ne ‹_› i m h hm) e6.symm
    refine ⟨wf2, by simp [h.lb], h.lk, fun m hm => ?_, fun m hm => ?_, fun m hm hbm => ?_, h.k2, h.ne⟩
    · rw [g1]; exact h.hd m hm
    · obtain ⟨a', ha', e3, _, _⟩ := h.hd m hm
      rw [getD_set_eq, e3, has_in wf2 a' ha', g1, g2, getD_set_eq, h.wf.il]
      by_cases hmi : m = i
      · subst hmi
        have : a' = a := by rw [e1] at e3; exact (Int.ofNat_inj.1 e3).symm
        subst this
        simp [hbl, ha]
      · rw [if_neg (by intro hc; exact hmi hc.1), h.has m hm, e3, has_in h.wf a' ha']
        by_cases e4 : a' = a
        · have := other m hm hmi a' e3 e4
          subst e4
          rw [decide_eq_false (fun hc => this hc.symm), Bool.and_false, Bool.and_false]
        · rw [if_neg (by intro hc; exact e4 hc.1)]
    · obtain ⟨a', ha', e3, _, _⟩ := h.hd m hm
      by_cases hmi : m = i
      · subst hmi
        rw [getD_set_eq, if_pos ⟨rfl, hbl⟩] at hbm
        cases hbm
      · rw [getD_set_eq, if_neg (by intro hc; exact hmi hc.1)] at hbm
        have h4 := h.has m hm
        rw [hbm, e3, has_in h.wf a' ha'] at h4
        have h5 := h4.symm
        rw [Bool.and_eq_true, decide_eq_true_eq] at h5
        have e4 : ¬ a' = a := fun e4 => other m hm hmi a' e3 e4 (by rw [← e4]; exact h5.2.symm)
        rw [e3, g3, getD_set_eq, if_neg (by intro hc; exact e4 (by simpa using hc.1)), ← e3]
        exact h.kd m hm hbm
theorem Hi.find {N : Nat} {T : Tb} {hs : List (Int × Int)} {bs : List Bool} {ks : List Int} (h : Hi N T hs bs ks) {i : Nat} (hi : i < hs.length) (hb : bs.getD i false = true) : fnA T (hh hs i).1 (hh hs i).2 = (hh hs i).1 := by
  unfold fnA
  rw [← h.has i hi, hb]
  rfl
theorem Hi.wf64 {N : Nat} {T : Tb} {hs : List (Int × Int)} {bs : List Bool} {ks : List Int} (h : Hi N T hs bs ks) (hN : N ≤ 1000) {i : Nat} (hi : i < hs.length) : (Lit.int .i64 (hh hs i).1).wf = true ∧ (Lit.int .i64 (hh hs i).2).wf = true := by
  obtain ⟨a, ha, e1, h1, e2⟩ := h.hd i hi
  have := mem_getD h.wf a
  constructor
  · exact (Lit.wf_int_iff _ _).2 ⟨by show (-9223372036854775808 : Int) ≤ _; omega, by show _ ≤ (9223372036854775807 : Int); omega⟩
  · exact (Lit.wf_int_iff _ _).2 ⟨by show (-9223372036854775808 : Int) ≤ _; omega, by show _ ≤ (9223372036854775807 : Int); omega⟩
end Go.Proofs.Ytcncpefdjgnhdaa
