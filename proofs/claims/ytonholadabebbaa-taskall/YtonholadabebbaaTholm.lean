/-
  What TaskHolds says of a task that may be: plain facts.
-/
import Derived.Test.YtonholadabebbaaTmay
namespace Go.Proofs.Ytonholadabebbaa

/-- how many Locks -/
def lkN (l : List In) (n : Nat) : Nat := cntN n fun i => (gt l i).1 == 9
theorem lkN_zero (l : List In) : lkN l 0 = 0 := rfl
theorem lkN_yes {l : List In} {k : Nat} (h : (gt l k).1 = 9) : lkN l (k + 1) = lkN l k + 1 := cntN_yes (p := fun i => (gt l i).1 == 9) (by simp [h])
theorem lkN_no {l : List In} {k : Nat} (h : (gt l k).1 ≠ 9) : lkN l (k + 1) = lkN l k := cntN_no (p := fun i => (gt l i).1 == 9) (by simpa using h)
theorem spL_locks (l : List In) : ∀ k, (spL l k).length = lkN l k
  | 0 => rfl
  | k + 1 => by
    by_cases h : (gt l k).1 = 9
    · rw [spL_yes h, lkN_yes h, ← spL_locks l k]; simp
    · rw [spL_no h, lkN_no h, spL_locks l k]
theorem lkN_le (l : List In) (n : Nat) : lkN l n ≤ n := by rw [← spL_locks]; exact spL_len l n
theorem tk_pos {l : List In} (hP : Prg l) : 1 ≤ tk l := by
  have hle := hP.le
  have h := Sm_first (l := l) (lo := 0) (a := 0) (b := l.length) (by omega)
  have := wt_pos hP.all (lo := 0) (i := 0)
  unfold tk
  omega
theorem lgs_le {l : List In} : ∀ k, lgs l k ≤ Sm l 0 0 k
  | 0 => Nat.zero_le _
  | k + 1 => by
    have ih := lgs_le (l := l) k
    have hf := frs_le l k
    cases hm : isM l k with
    | false => rw [(frs_no hm).2, Sm_succ (Nat.zero_le _)]; omega
    | true =>
      rw [(frs_yes hm).2]
      have h1 := Sm_split (l := l) (lo := 0) (Nat.zero_le (frs l k)) (show frs l k ≤ k + 1 by omega)
      have h2 := Sm_succ (l := l) (lo := 0) (Nat.zero_le k)
      omega
theorem lgs_tk (l : List In) : lgs l l.length ≤ tk l := lgs_le l.length
theorem spn_bd {l : List In} (hP : Prg l) {k : Nat} (hk : k < l.length) (h9 : (gt l k).1 = 9) (ho : okP l = true) : 1 ≤ (spn l k).2 ∧ (spn l k).2 < (tk l : Nat) := by
  obtain ⟨u, hu⟩ := pr_of ho hk h9
  have h1 := hu.lt
  have h2 := hu.le
  rw [spn_of hu]
  dsimp only
  have a1 := Sm_split (l := l) (lo := k + 1) (show k + 1 ≤ u by omega) (show u ≤ u + 1 by omega)
  have a2 := Sm_one l (k + 1) u
  have a3 := wt_pos hP.all (lo := k + 1) (i := u)
  have b1 : ∀ b, k + 1 ≤ b → b ≤ u + 1 → Sm l (k + 1) (k + 1) b ≤ Sm l 0 (k + 1) b := by
    intro b hb
    induction b with
    | zero => omega
    | succ b ih =>
      intro hb2
      by_cases e : b = k
      · subst e; rw [Sm_nil, Sm_nil]; exact Nat.le_refl _
      · have := ih (by omega) (by omega)
        rw [Sm_succ (by omega), Sm_succ (by omega)]
        have := wt_le hP.all (lo := k + 1) (i := b) (by omega)
        omega
  have b2 := b1 (u + 1) (by omega) (Nat.le_refl _)
  have c1 := Sm_split (l := l) (lo := 0) (Nat.zero_le (k + 1)) (show k + 1 ≤ l.length by omega)
  have c2 := Sm_split (l := l) (lo := 0) (show k + 1 ≤ u + 1 by omega) (show u + 1 ≤ l.length by omega)
  have c3 := Sm_succ (l := l) (lo := 0) (Nat.zero_le k)
  have c4 := wt_pos hP.all (lo := 0) (i := k)
  unfold tk
  omega
theorem spL_bd {l : List In} (hP : Prg l) (ho : okP l = true) : ∀ k, k ≤ l.length → ∀ x ∈ spL l k, 1 ≤ x.2 ∧ x.2 < (tk l : Nat)
  | 0, _, x, hx => by simp [spL] at hx
  | k + 1, hk, x, hx => by
    by_cases h : (gt l k).1 = 9
    · rw [spL_yes h] at hx
      rcases List.mem_append.1 hx with hx | hx
      · exact spL_bd hP ho k (by omega) x hx
      · obtain rfl := List.mem_singleton.1 hx
        exact spn_bd hP (by omega) h ho
    · rw [spL_no h] at hx
      exact spL_bd hP ho k (by omega) x hx
theorem okP_of {l : List In} (h : okB l = true) : okP l = true := by
  unfold okB at h
  simp only [Bool.and_eq_true] at h
  exact h.1.2
theorem spaT_le {r p e E : Int} {M W O : List In} (h : erT r p e M W O = E) : (spaT E M W).length ≤ 48 := by
  by_cases h0 : E = 0
  · subst h0
    obtain ⟨_, _, _, kM, kW, _, _, _⟩ := er0 h
    have := spa_len kM kW
    show (if (0 : Int) = 0 then spL M M.length ++ tws W else []).length ≤ 48
    rw [if_pos rfl, List.length_append]
    exact this
  · unfold spaT
    rw [if_neg h0]
    exact Nat.zero_le _
/-- what TaskHolds says, of a task that may be -/
theorem task_facts {r p e : Int} {M W O : List In} (h : erT r p e M W O = 0) :
    okB M = true ∧ cosT 0 M ≤ e ∧ 1 ≤ losT 0 M W ∧ losT 0 M W ≤ cosT 0 M ∧ (okB W = true → losT 0 M W = (tk W : Nat)) ∧ (∀ x ∈ spaT 0 M W, 1 ≤ x.2 ∧ x.2 < cosT 0 M) ∧ lkN M M.length ≤ (spaT 0 M W).length ∧ cosT 0 M = (tk M : Nat) := by
  obtain ⟨_, _, _, kM, kW, _, hc, hw⟩ := er0 h
  have hP := prg_of kM
  have e1 : cosT 0 M = (tk M : Nat) := if_pos rfl
  have e3 : spaT 0 M W = spL M M.length ++ tws W := if_pos rfl
  have hs : ∀ x ∈ spL M M.length, 1 ≤ x.2 ∧ x.2 < ((tk M : Nat) : Int) := spL_bd hP (okP_of kM) _ (Nat.le_refl _)
  by_cases h0 : W.length = 0
  · have e2 : losT 0 M W = ((lgs M M.length : Nat) : Int) := by unfold losT; rw [if_pos rfl, if_pos h0]
    have e4 : tws W = [] := if_pos h0
    have l1 := lgs_pos hP
    have l2 := lgs_tk M
    refine ⟨kM, by rw [e1]; exact hc, by rw [e2]; omega, by rw [e2, e1]; omega, fun hk => ?_, ?_, ?_, e1⟩
    · have := (prg_of hk).le; omega
    · rw [e3, e4, e1, List.append_nil]; exact hs
    · rw [e3, e4, List.append_nil, spL_locks]; exact Nat.le_refl _
  · have kW' : okB W = true := by unfold wyB at kW; simpa [h0] using kW
    have hPW := prg_of kW'
    have e2 : losT 0 M W = ((tk W : Nat) : Int) := by unfold losT; rw [if_pos rfl, if_neg h0]
    have e4 : tws W = spL W W.length := if_neg h0
    have e5 : twk W = tk W := if_neg h0
    have l1 := tk_pos hPW
    refine ⟨kM, by rw [e1]; exact hc, by rw [e2]; omega, by rw [e2, e1]; omega, fun _ => e2, ?_, ?_, e1⟩
    · intro x hx
      rw [e3, e4] at hx
      rw [e1]
      rcases List.mem_append.1 hx with hx | hx
      · exact hs x hx
      · have := spL_bd hPW (okP_of kW') _ (Nat.le_refl _) x hx
        omega
    · rw [e3, List.length_append, spL_locks]; omega
end Go.Proofs.Ytonholadabebbaa
