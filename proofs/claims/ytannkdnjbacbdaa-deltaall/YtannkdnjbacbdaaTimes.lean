/-
  Plain facts on rows of timers, by when each comes ('absT'): what Add, Drop and Tick make of them. Nothing of the program's text.
-/
import Derived.Test.YtannkdnjbacbdaaTick
namespace Go.Proofs.Ytannkdnjbacbdaa

/-- when each comes, s ticks on -/
def absT : Int → List Tm → List Tm
  | _, [] => []
  | s, x :: r => (s + x.1, x.2) :: absT (s + x.1) r
/-- one more, behind those that come no later -/
def insA : List Tm → Int → Int → List Tm
  | [], n, k => [(n, k)]
  | y :: r, n, k => if y.1 ≤ n then y :: insA r n k else (n, k) :: y :: r
def delA (B : List Tm) (k : Int) : List Tm := B.filter fun y => decide (y.2 ≠ k)
def tickA (B : List Tm) : List Tm := (B.filter fun y => decide (1 < y.1)).map fun y => (y.1 - 1, y.2)
def dueA (B : List Tm) : List Int := (B.filter fun y => decide (y.1 ≤ 1)).map (·.2)

theorem absT_keys : ∀ (l : List Tm) (s : Int), (absT s l).map (·.2) = l.map (·.2)
  | [], _ => rfl
  | x :: r, s => by simp [absT, absT_keys r]
theorem absT_length (l : List Tm) (s : Int) : (absT s l).length = l.length := by
  have := congrArg List.length (absT_keys l s); simpa using this
theorem absT_shift : ∀ (l : List Tm) (s d : Int), absT (s + d) l = (absT s l).map fun y => (y.1 + d, y.2)
  | [], _, _ => rfl
  | x :: r, s, d => by
    simp only [absT, List.map_cons]
    rw [show s + d + x.1 = s + x.1 + d by omega, absT_shift r]
theorem absT_ge : ∀ (l : List Tm) (s : Int), (∀ x ∈ l, 0 ≤ x.1) → ∀ y ∈ absT s l, s ≤ y.1
  | x :: r, s, h, y, hy => by
    have h0 := h x (by simp)
    simp only [absT, List.mem_cons] at hy
    rcases hy with rfl | hy
    · show s ≤ s + x.1; omega
    · have := absT_ge r (s + x.1) (fun z hz => h z (by simp [hz])) y hy; omega
theorem absT_le : ∀ (l : List Tm) (s : Int), (∀ x ∈ l, 0 ≤ x.1) → ∀ y ∈ absT s l, y.1 ≤ s + sumA l
  | x :: r, s, h, y, hy => by
    have hr : ∀ z ∈ r, 0 ≤ z.1 := fun z hz => h z (by simp [hz])
    simp only [absT, List.mem_cons] at hy
    simp only [sumA]
    rcases hy with rfl | hy
    · have := sumA_nonneg r hr; show s + x.1 ≤ _; omega
    · have := absT_le r (s + x.1) hr y hy; omega

/-! ### Add -/
theorem addT_nil (n k : Int) : addT [] n k = [(n, k)] := by simp [addT, behT, insT, subAt, sumA]
theorem addT_cons (x : Tm) (r : List Tm) (n k : Int) : addT (x :: r) n k = if x.1 ≤ n then x :: addT r (n - x.1) k else (n, k) :: (x.1 - n, x.2) :: r := by
  by_cases h : x.1 ≤ n
  · have e : behT (x :: r) n = behT r (n - x.1) + 1 := by simp [behT, h]
    rw [if_pos h]
    unfold addT
    rw [e, List.take_succ_cons]
    simp only [sumA]
    rw [show n - (x.1 + sumA (r.take (behT r (n - x.1)))) = n - x.1 - sumA (r.take (behT r (n - x.1))) by omega]
    simp [subAt, insT]
  · have e : behT (x :: r) n = 0 := by simp [behT, h]
    rw [if_neg h]
    unfold addT
    rw [e]
    simp [sumA, insT, subAt]
theorem abs_add : ∀ (l : List Tm) (s n k : Int), absT s (addT l n k) = insA (absT s l) (s + n) k
  | [], s, n, k => by simp [addT_nil, absT, insA]
  | x :: r, s, n, k => by
    rw [addT_cons]
    by_cases h : x.1 ≤ n
    · rw [if_pos h]
      simp only [absT, insA]
      rw [if_pos (by omega), abs_add r, show s + x.1 + (n - x.1) = s + n by omega]
    · rw [if_neg h]
      simp only [absT, insA]
      rw [if_neg (by omega), show s + n + (x.1 - n) = s + x.1 by omega]
theorem add_low : ∀ (l : List Tm) (n k : Int), 0 ≤ n → (∀ x ∈ l, 0 ≤ x.1) → ∀ y ∈ addT l n k, 0 ≤ y.1
  | [], n, k, hn, _, y, hy => by
    rw [addT_nil] at hy
    simp at hy; subst hy; exact hn
  | x :: r, n, k, hn, h, y, hy => by
    rw [addT_cons] at hy
    have hr : ∀ z ∈ r, 0 ≤ z.1 := fun z hz => h z (by simp [hz])
    split at hy
    · rcases List.mem_cons.1 hy with rfl | hy
      · exact h _ (by simp)
      · exact add_low r (n - x.1) k (by omega) hr y hy
    · simp only [List.mem_cons] at hy
      rcases hy with rfl | rfl | hy
      · exact hn
      · show 0 ≤ x.1 - n; omega
      · exact hr y hy
theorem add_sum : ∀ (l : List Tm) (n k M : Int), n ≤ M → sumA l ≤ M → sumA (addT l n k) ≤ M
  | [], n, k, M, hn, _ => by rw [addT_nil]; simpa [sumA] using hn
  | x :: r, n, k, M, hn, h => by
    rw [addT_cons]
    simp only [sumA] at h
    split
    · have := add_sum r (n - x.1) k (M - x.1) (by omega) (by omega)
      simp only [sumA]; omega
    · simp only [sumA]; omega
theorem add_keys : ∀ (l : List Tm) (n k : Int), ((addT l n k).map (·.2)).Perm (k :: l.map (·.2))
  | [], n, k => by rw [addT_nil]; simp
  | x :: r, n, k => by
    rw [addT_cons]
    split
    · simp only [List.map_cons]
      exact ((add_keys r (n - x.1) k).cons x.2).trans (List.Perm.swap _ _ _)
    · simp
theorem mem_has : ∀ (l : List Tm) (a s k : Int), (lookE (entT a s l) k).isSome = decide (k ∈ l.map (·.2))
  | [], _, _, _ => by simp [entT, lookE]
  | x :: r, a, s, k => by
    simp only [entT, lookE]
    by_cases h : k = x.2
    · simp [h]
    · rw [if_neg h, mem_has r]
      simp [h]
theorem hasT_iff (l : List Tm) (k : Int) : hasT l k = decide (k ∈ l.map (·.2)) := mem_has l 0 0 k
theorem bd_add {l : List Tm} (h : Bd l) (n k : Int) (hok : okAdd l n k = true) : Bd (addT l n k) := by
  unfold okAdd timeB at hok
  simp only [Bool.and_eq_true, Bool.not_eq_true', decide_eq_true_eq] at hok
  obtain ⟨⟨h1, h2⟩, _⟩ := hok
  refine ⟨add_low l n k h1.1 h.low, add_sum l n k _ h1.2 h.sum, (add_keys l n k).nodup_iff.2 ?_⟩
  rw [hasT_iff] at h2
  exact List.nodup_cons.2 ⟨by simpa using h2, h.keys⟩
theorem bd_resAdd {l : List Tm} (h : Bd l) (n k : Int) : Bd (resAdd l n k) := by
  unfold resAdd
  split
  · exact bd_add h n k ‹_›
  · exact h

/-! ### Drop -/
theorem dropI_zero (x : Tm) : dropI [x] 0 = [] := by simp [dropI, cutT, subAt]
theorem dropI_head (x y : Tm) (r : List Tm) : dropI (x :: y :: r) 0 = (y.1 + x.1, y.2) :: r := by
  simp [dropI, cutT, subAt]
theorem dropI_succ (x : Tm) (r : List Tm) (a : Nat) : dropI (x :: r) (a + 1) = x :: dropI r a := by
  simp [dropI, cutT, subAt]
theorem delA_none (B : List Tm) (k : Int) (h : k ∉ B.map (·.2)) : delA B k = B := by
  unfold delA
  rw [List.filter_eq_self]
  intro y hy
  simp only [decide_eq_true_eq]
  intro e
  exact h (e ▸ List.mem_map_of_mem hy)
theorem abs_drop : ∀ (l : List Tm) (s k : Int) (A : Nat) (hA : A < l.length), l[A].2 = k → (l.map (·.2)).Nodup → absT s (dropI l A) = delA (absT s l) k
  | [x], s, k, 0, _, hk, _ => by
    simp only [List.getElem_cons_zero] at hk
    simp [dropI_zero, absT, delA, hk]
  | x :: y :: r, s, k, 0, _, hk, hn => by
    simp only [List.getElem_cons_zero] at hk
    have hnk : k ∉ (y :: r).map (·.2) := by
      rw [List.map_cons] at hn
      rw [← hk]; exact (List.nodup_cons.1 hn).1
    have h1 : delA (absT s (x :: y :: r)) k = delA (absT (s + x.1) (y :: r)) k := by
      unfold delA
      rw [absT, List.filter_cons]
      simp [hk]
    rw [h1, delA_none _ _ (by rw [absT_keys]; exact hnk), dropI_head]
    simp only [absT]
    rw [show s + (y.1 + x.1) = s + x.1 + y.1 by omega]
  | x :: r, s, k, A + 1, hA, hk, hn => by
    rw [List.map_cons] at hn
    obtain ⟨h1, h2⟩ := List.nodup_cons.1 hn
    have hA' : A < r.length := by simpa using hA
    have hk' : r[A].2 = k := by simpa using hk
    have hx : x.2 ≠ k := fun e => h1 (by rw [e, ← hk']; exact List.mem_map_of_mem (List.getElem_mem hA'))
    rw [dropI_succ, absT, abs_drop r (s + x.1) k A hA' hk' h2]
    conv => rhs; rw [absT]
    unfold delA
    rw [List.filter_cons]
    simp [hx]
theorem drop_low : ∀ (l : List Tm) (A : Nat), A < l.length → (∀ x ∈ l, 0 ≤ x.1) → ∀ y ∈ dropI l A, 0 ≤ y.1
  | [x], 0, _, _, y, hy => by simp [dropI_zero] at hy
  | x :: y :: r, 0, _, h, z, hz => by
    rw [dropI_head] at hz
    have h1 := h x (by simp)
    have h2 := h y (by simp)
    rcases List.mem_cons.1 hz with rfl | hz
    · show 0 ≤ y.1 + x.1; omega
    · exact h z (by simp [hz])
  | x :: r, A + 1, hA, h, z, hz => by
    rw [dropI_succ] at hz
    rcases List.mem_cons.1 hz with rfl | hz
    · exact h _ (by simp)
    · exact drop_low r A (by simpa using hA) (fun w hw => h w (by simp [hw])) z hz
theorem drop_sum : ∀ (l : List Tm) (A : Nat), A < l.length → (∀ x ∈ l, 0 ≤ x.1) → sumA (dropI l A) ≤ sumA l
  | [x], 0, _, h => by rw [dropI_zero]; have := h x (by simp); simp only [sumA]; omega
  | x :: y :: r, 0, _, h => by rw [dropI_head]; simp only [sumA]; omega
  | x :: r, A + 1, hA, h => by
    rw [dropI_succ]
    have := drop_sum r A (by simpa using hA) (fun w hw => h w (by simp [hw]))
    simp only [sumA]; omega
theorem drop_keys : ∀ (l : List Tm) (A : Nat), A < l.length → ((dropI l A).map (·.2)).Sublist (l.map (·.2))
  | [x], 0, _ => by simp [dropI_zero]
  | x :: y :: r, 0, _ => by rw [dropI_head]; simp
  | x :: r, A + 1, hA => by
    rw [dropI_succ]
    simpa using drop_keys r A (by simpa using hA)
theorem abs_resDrop {l : List Tm} (h : Bd l) (k : Int) : absT 0 (resDrop l k) = delA (absT 0 l) k := by
  unfold resDrop
  split
  · rename_i hh
    obtain ⟨A, hA, h1, h2, _⟩ := place_of l k hh
    rw [h2]
    exact abs_drop l 0 k A hA h1 h.keys
  · rename_i hh
    rw [hasT_iff] at hh
    rw [delA_none _ _ (by rw [absT_keys]; simpa using hh)]
theorem bd_resDrop {l : List Tm} (h : Bd l) (k : Int) : Bd (resDrop l k) := by
  unfold resDrop
  split
  · rename_i hh
    obtain ⟨A, hA, h1, h2, _⟩ := place_of l k hh
    rw [h2]
    refine ⟨drop_low l A hA h.low, Int.le_trans (drop_sum l A hA h.low) h.sum, ?_⟩
    exact h.keys.sublist (drop_keys l A hA)
  · exact h

/-! ### Tick -/
theorem decT_cons (x : Tm) (r : List Tm) : decT (x :: r) = if x.1 = 0 then x :: decT r else (x.1 - 1, x.2) :: r := by
  unfold decT
  by_cases h : x.1 = 0
  · simp [waitT, h, subAt]
  · simp [waitT, h, subAt]
theorem restT_cons (x : Tm) (r : List Tm) : restT (x :: r) = if x.1 = 0 then restT r else if x.1 = 1 then r.drop (waitT r) else (x.1 - 1, x.2) :: r := by
  unfold restT dueT
  rw [decT_cons]
  by_cases h : x.1 = 0
  · simp [h, waitT]
  · by_cases h1 : x.1 = 1
    · simp [h1, waitT]
    · have : ¬ (x.1 - 1 = 0) := by omega
      simp [h, h1, waitT, this]
theorem dueT_cons (x : Tm) (r : List Tm) : dueT (x :: r) = if x.1 = 0 then dueT r + 1 else if x.1 = 1 then waitT r + 1 else 0 := by
  unfold dueT
  rw [decT_cons]
  by_cases h : x.1 = 0
  · simp [h, waitT]
  · by_cases h1 : x.1 = 1
    · simp [h1, waitT]
    · have : ¬ (x.1 - 1 = 0) := by omega
      simp [h, h1, waitT, this]
theorem tickA_all (B : List Tm) (h : ∀ y ∈ B, 1 < y.1) : tickA B = B.map fun y => (y.1 - 1, y.2) := by
  unfold tickA
  rw [List.filter_eq_self.2 (fun y hy => by simpa using h y hy)]
theorem dueA_none (B : List Tm) (h : ∀ y ∈ B, 1 < y.1) : dueA B = [] := by
  unfold dueA
  rw [List.filter_eq_nil_iff.2 (fun y hy => by have := h y hy; simp; omega)]
  rfl
theorem tickA_cons (y : Tm) (B : List Tm) : tickA (y :: B) = if 1 < y.1 then (y.1 - 1, y.2) :: tickA B else tickA B := by
  unfold tickA
  rw [List.filter_cons]
  by_cases h : 1 < y.1 <;> simp [h]
theorem dueA_cons (y : Tm) (B : List Tm) : dueA (y :: B) = if 1 < y.1 then dueA B else y.2 :: dueA B := by
  unfold dueA
  rw [List.filter_cons]
  by_cases h : 1 < y.1
  · have : ¬ (y.1 ≤ 1) := by omega
    simp [h, this]
  · have : y.1 ≤ 1 := by omega
    simp [h, this]
theorem abs_less (l : List Tm) (s : Int) : (absT (s + 1) l).map (fun y => (y.1 - 1, y.2)) = absT s l := by
  rw [absT_shift, List.map_map]
  conv => rhs; rw [← List.map_id (absT s l)]
  apply List.map_congr_left
  intro y _
  simp
theorem wait_abs : ∀ (r : List Tm), (∀ x ∈ r, 0 ≤ x.1) → absT 0 (r.drop (waitT r)) = tickA (absT 1 r) ∧ (r.take (waitT r)).map (·.2) = dueA (absT 1 r)
  | [], _ => by simp [waitT, absT, tickA, dueA]
  | x :: r, h => by
    have hr : ∀ z ∈ r, 0 ≤ z.1 := fun z hz => h z (by simp [hz])
    have hx := h x (by simp)
    obtain ⟨h1, h2⟩ := wait_abs r hr
    by_cases h0 : x.1 = 0
    · have e : waitT (x :: r) = waitT r + 1 := by simp [waitT, h0]
      rw [e, List.drop_succ_cons, List.take_succ_cons]
      simp only [absT, h0, Int.add_zero]
      rw [tickA_cons, dueA_cons, if_neg (by simp), if_neg (by simp), h1]
      exact ⟨rfl, by rw [List.map_cons, h2]⟩
    · have e : waitT (x :: r) = 0 := by simp [waitT, h0]
      have hall : ∀ y ∈ absT 1 (x :: r), 1 < y.1 := by
        intro y hy
        simp only [absT, List.mem_cons] at hy
        rcases hy with rfl | hy
        · show 1 < 1 + x.1; omega
        · have := absT_ge r (1 + x.1) hr y hy; omega
      rw [e, tickA_all _ hall, dueA_none _ hall]
      refine ⟨?_, rfl⟩
      have := abs_less (x :: r) 0
      simpa using this.symm
theorem abs_tick : ∀ (l : List Tm), (∀ x ∈ l, 0 ≤ x.1) → absT 0 (restT l) = tickA (absT 0 l) ∧ (l.take (dueT l)).map (·.2) = dueA (absT 0 l)
  | [], _ => by simp [restT, decT, subAt, absT, tickA, dueA]
  | x :: r, h => by
    have hr : ∀ z ∈ r, 0 ≤ z.1 := fun z hz => h z (by simp [hz])
    have hx := h x (by simp)
    obtain ⟨h1, h2⟩ := abs_tick r hr
    rw [restT_cons, dueT_cons]
    by_cases h0 : x.1 = 0
    · simp only [h0, if_true, absT, Int.add_zero]
      rw [tickA_cons, dueA_cons, if_neg (by simp), if_neg (by simp), h1, List.take_succ_cons, List.map_cons, h2]
      exact ⟨rfl, rfl⟩
    · rw [if_neg h0, if_neg h0]
      by_cases h3 : x.1 = 1
      · obtain ⟨h4, h5⟩ := wait_abs r hr
        rw [if_pos h3, if_pos h3, h4]
        simp only [absT, h3, Int.zero_add]
        rw [tickA_cons, dueA_cons, if_neg (by simp), if_neg (by simp), List.take_succ_cons, List.map_cons, h5]
        exact ⟨rfl, rfl⟩
      · rw [if_neg h3, if_neg h3]
        have hall : ∀ y ∈ absT 0 (x :: r), 1 < y.1 := by
          intro y hy
          simp only [absT, List.mem_cons] at hy
          rcases hy with rfl | hy
          · show 1 < 0 + x.1; omega
          · have := absT_ge r (0 + x.1) hr y hy; omega
        rw [tickA_all _ hall, dueA_none _ hall]
        refine ⟨?_, rfl⟩
        have := abs_less r (x.1 - 1)
        simp only [absT, List.map_cons, Int.zero_add]
        rw [← this, show x.1 - 1 + 1 = x.1 by omega]
theorem rest_low (l : List Tm) (h : ∀ x ∈ l, 0 ≤ x.1) : ∀ y ∈ restT l, 0 ≤ y.1 := by
  induction l with
  | nil => intro y hy; simp [restT, decT, subAt] at hy
  | cons x r ih =>
    have hr : ∀ z ∈ r, 0 ≤ z.1 := fun z hz => h z (by simp [hz])
    have hx := h x (by simp)
    intro y hy
    rw [restT_cons] at hy
    split at hy
    · exact ih hr y hy
    · split at hy
      · exact hr y (List.mem_of_mem_drop hy)
      · rcases List.mem_cons.1 hy with rfl | hy
        · show 0 ≤ x.1 - 1; omega
        · exact hr y hy
theorem rest_sum (l : List Tm) (h : ∀ x ∈ l, 0 ≤ x.1) : sumA (restT l) ≤ sumA l := by
  induction l with
  | nil => simp [restT, decT, subAt, sumA]
  | cons x r ih =>
    have hr : ∀ z ∈ r, 0 ≤ z.1 := fun z hz => h z (by simp [hz])
    have hx := h x (by simp)
    have := ih hr
    rw [restT_cons]
    simp only [sumA]
    split
    · omega
    · split
      · have h1 := sumA_nonneg (r.take (waitT r)) (fun z hz => hr z (List.mem_of_mem_take hz))
        have h2 := sumA_append (r.take (waitT r)) (r.drop (waitT r))
        rw [List.take_append_drop] at h2
        omega
      · simp only [sumA]; omega
theorem decT_keys (l : List Tm) : (decT l).map (·.2) = l.map (·.2) := by
  induction l with
  | nil => rfl
  | cons x r ih => rw [decT_cons]; split <;> simp [ih]
theorem bd_rest {l : List Tm} (h : Bd l) : Bd (restT l) := by
  refine ⟨rest_low l h.low, Int.le_trans (rest_sum l h.low) h.sum, ?_⟩
  have : ((restT l).map (·.2)).Sublist (l.map (·.2)) := by
    rw [← decT_keys l]
    exact (List.drop_sublist _ _).map _
  exact h.keys.sublist this

/-! ### how many ticks are left -/
theorem left_abs : ∀ (l : List Tm) (a s k x y : Int), lookE (entT a s l) k = some (x, y) → (y, k) ∈ absT s l
  | z :: r, a, s, k, x, y, h => by
    simp only [entT, lookE] at h
    split at h
    · rename_i e
      simp only [Option.some.injEq, Prod.mk.injEq] at h
      simp [absT, e, h.2]
    · have := left_abs r (a + 1) (s + z.1) k x y h
      simp [absT, this]
theorem nodup_val {B : List Tm} (h : (B.map (·.2)).Nodup) {x y : Int} {k : Int} (hx : (x, k) ∈ B) (hy : (y, k) ∈ B) : x = y := by
  induction B with
  | nil => simp at hx
  | cons z r ih =>
    rw [List.map_cons] at h
    obtain ⟨h1, h2⟩ := List.nodup_cons.1 h
    rcases List.mem_cons.1 hx with e1 | hx <;> rcases List.mem_cons.1 hy with e2 | hy
    · have := e1.trans e2.symm; simp at this; exact this
    · exact absurd (List.mem_map_of_mem (f := (·.2)) hy) (by rw [← e1] at h1; exact h1)
    · exact absurd (List.mem_map_of_mem (f := (·.2)) hx) (by rw [← e2] at h1; exact h1)
    · exact ih h2 hx hy
theorem leftT_abs {l : List Tm} (h : Bd l) {x k : Int} (hx : (x, k) ∈ absT 0 l) : leftT l k = x ∧ hasT l k = true := by
  have hk : k ∈ l.map (·.2) := by
    rw [← absT_keys l 0]; exact List.mem_map_of_mem (f := (·.2)) hx
  have hh : hasT l k = true := by rw [hasT_iff]; simpa using hk
  refine ⟨?_, hh⟩
  unfold hasT at hh
  obtain ⟨⟨a, y⟩, hy⟩ := Option.isSome_iff_exists.1 hh
  have h1 := left_abs l 0 0 k a y hy
  have : leftT l k = y := by simp [leftT, hy]
  rw [this]
  exact nodup_val (by rw [absT_keys]; exact h.keys) h1 hx
end Go.Proofs.Ytannkdnjbacbdaa
