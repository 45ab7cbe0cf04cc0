/-
  A piece that holds a semaphore which nobody else wants, ahead of a program: plain facts.
-/
import Derived.Test.YteklpceikddggaaBfmath
import Derived.Test.YteklpceikddggaaBrceil
import Derived.Test.YteklpceikddggaaMadeq
namespace Go.Proofs.Yteklpceikddggaa

def pre3 : List In := [(9, 3, 0, 0), (1, 5, 0, 0), (10, 3, 0, 0)]
theorem p_gt (M : List In) (i : Nat) : gt (pre3 ++ M) (i + 3) = gt M i := by
  rw [gt_right (show pre3.length ≤ i + 3 by show 3 ≤ i + 3; omega)]; rfl
theorem p_len (M : List In) : (pre3 ++ M).length = M.length + 3 := by rw [List.length_append]; show 3 + _ = _; omega
theorem p_in3 (M : List In) {f i : Nat} (hf : f < 3) : inA (pre3 ++ M) f i = false := by
  refine inA_none ?_
  obtain rfl | rfl | rfl : f = 0 ∨ f = 1 ∨ f = 2 := by omega
  · show rch (9, 3, 0, 0) = 0; decide
  · show rch (1, 5, 0, 0) = 0; decide
  · show rch (10, 3, 0, 0) = 0; decide
theorem p_inA (M : List In) (f i : Nat) : inA (pre3 ++ M) (f + 3) (i + 3) = inA M f i := by
  rw [Bool.eq_iff_iff, inA_iff, inA_iff, p_gt]; omega
theorem p_scL (M : List In) (hl : M.length ≤ 20) (a b : Nat) : scL (pre3 ++ M) (a + 3) = scL (pre3 ++ M) (b + 3) ↔ scL M a = scL M b := by
  rw [scL_eq, scL_eq]
  constructor
  · intro h f hf
    by_cases hf2 : f < 21
    · have := h (f + 3) (by omega)
      rwa [p_inA, p_inA] at this
    · have e : rch (gt M f) = 0 := by rw [gt_out (by omega)]; decide
      rw [inA_none e, inA_none e]
  · intro h f hf
    by_cases hf2 : f < 3
    · rw [p_in3 M hf2, p_in3 M hf2]
    · obtain ⟨g, rfl⟩ : ∃ g, f = g + 3 := ⟨f - 3, by omega⟩
      rw [p_inA, p_inA]; exact h g (by omega)
theorem p_sc02 (M : List In) : scL (pre3 ++ M) 0 = scL (pre3 ++ M) 2 := scL_eq.2 fun f hf => by
  by_cases h : f < 3
  · rw [p_in3 M h, p_in3 M h]
  · rw [inA_no.2 (by omega), inA_no.2 (by omega)]
theorem p_run1 (M : List In) : runO (pre3 ++ M) 1 = some [0] := by
  show stepO (pre3 ++ M) 0 [] = _
  unfold stepO
  rw [if_pos (show (gt (pre3 ++ M) 0).1 = 9 from rfl), if_neg (by simp)]
  rfl
theorem p_run2 (M : List In) : runO (pre3 ++ M) 2 = some [0] := by
  show (runO (pre3 ++ M) 1).bind (stepO (pre3 ++ M) 1) = _
  rw [p_run1]
  show stepO (pre3 ++ M) 1 [0] = _
  unfold stepO
  rw [if_neg (show ¬ (gt (pre3 ++ M) 1).1 = 9 by show ¬ (1 : Int) = 9; decide), if_neg (show ¬ (gt (pre3 ++ M) 1).1 = 10 by show ¬ (1 : Int) = 10; decide)]
theorem p_run3 (M : List In) : runO (pre3 ++ M) 3 = some [] := by
  show (runO (pre3 ++ M) 2).bind (stepO (pre3 ++ M) 2) = _
  rw [p_run2]
  show stepO (pre3 ++ M) 2 [0] = _
  unfold stepO
  rw [if_neg (show ¬ (gt (pre3 ++ M) 2).1 = 9 by show ¬ (10 : Int) = 9; decide), if_pos (show (gt (pre3 ++ M) 2).1 = 10 from rfl)]
  show (if (gt (pre3 ++ M) 0).2.1 = (gt (pre3 ++ M) 2).2.1 ∧ scL (pre3 ++ M) 0 = scL (pre3 ++ M) 2 then some [0].dropLast else none) = _
  rw [if_pos ⟨rfl, p_sc02 M⟩]
  try rfl
theorem p_step (M : List In) (hl : M.length ≤ 20) (i : Nat) (o : List Nat) : stepO (pre3 ++ M) (i + 3) (o.map (· + 3)) = (stepO M i o).map (·.map (· + 3)) := by
  unfold stepO
  rw [p_gt]
  by_cases h9 : (gt M i).1 = 9
  · rw [if_pos h9, if_pos h9]
    have e : ((o.map (· + 3)).any fun k => (gt (pre3 ++ M) k).2.1 == (gt M i).2.1) = o.any fun k => (gt M k).2.1 == (gt M i).2.1 := by
      simp only [List.any_map, Function.comp_def, p_gt]
    rw [e, List.length_map]
    split
    · rfl
    · simp
  · rw [if_neg h9, if_neg h9]
    by_cases h10 : (gt M i).1 = 10
    · rw [if_pos h10, if_pos h10, List.getLast?_map]
      cases o.getLast? with
      | none => rfl
      | some k =>
        show (if (gt (pre3 ++ M) (k + 3)).2.1 = (gt M i).2.1 ∧ scL (pre3 ++ M) (k + 3) = scL (pre3 ++ M) (i + 3) then some (o.map (· + 3)).dropLast else none) = Option.map _ (if (gt M k).2.1 = (gt M i).2.1 ∧ scL M k = scL M i then some o.dropLast else none)
        rw [p_gt]
        by_cases hc : (gt M k).2.1 = (gt M i).2.1 ∧ scL M k = scL M i
        · rw [if_pos ⟨hc.1, (p_scL M hl k i).2 hc.2⟩, if_pos hc, ← List.map_dropLast]
          rfl
        · rw [if_neg (fun h => hc ⟨h.1, (p_scL M hl k i).1 h.2⟩), if_neg hc]
          rfl
    · rw [if_neg h10, if_neg h10]
      rfl
theorem p_run (M : List In) (hl : M.length ≤ 20) : ∀ i, runO (pre3 ++ M) (i + 3) = (runO M i).map (·.map (· + 3))
  | 0 => p_run3 M
  | i + 1 => by
    have ih := p_run M hl i
    show (runO (pre3 ++ M) (i + 3)).bind (stepO (pre3 ++ M) (i + 3)) = ((runO M i).bind (stepO M i)).map _
    rw [ih]
    cases runO M i with
    | none => rfl
    | some o => exact p_step M hl i o
theorem p_opn (M : List In) (hl : M.length ≤ 20) (i : Nat) : opn (pre3 ++ M) (i + 3) = (opn M i).map (· + 3) := by
  unfold opn
  rw [p_run M hl]
  cases runO M i <;> rfl
theorem p_inB (M : List In) (f i : Nat) : inB (pre3 ++ M) (f + 3) (i + 3) = inB M f i := by
  rw [Bool.eq_iff_iff, inB_iff, inB_iff, p_gt]; omega
theorem p_wtA (M : List In) (lo i : Nat) : ∀ k, wtA (pre3 ++ M) (lo + 3) (i + 3) (k + 3) = wtA M lo i k
  | 0 => wtA_low (by omega)
  | k + 1 => by
    have ih := p_wtA M lo i k
    have e1 : wtA (pre3 ++ M) (lo + 3) (i + 3) (k + 3 + 1) = if (decide (lo + 3 ≤ k + 3) && inB (pre3 ++ M) (k + 3) (i + 3)) = true then wtA (pre3 ++ M) (lo + 3) (i + 3) (k + 3) * nOf (pre3 ++ M) (k + 3) else wtA (pre3 ++ M) (lo + 3) (i + 3) (k + 3) := rfl
    have e2 : wtA M lo i (k + 1) = if (decide (lo ≤ k) && inB M k i) = true then wtA M lo i k * nOf M k else wtA M lo i k := rfl
    have e3 : nOf (pre3 ++ M) (k + 3) = nOf M k := by unfold nOf; rw [p_gt]
    have e4 : decide (lo + 3 ≤ k + 3) = decide (lo ≤ k) := by simp
    rw [show k + 1 + 3 = k + 3 + 1 by omega, e1, e2, ih, e3, p_inB, e4]
theorem p_smW (M : List In) (lo a : Nat) : ∀ n, smW (pre3 ++ M) (lo + 3) (a + 3) n = smW M lo a n
  | 0 => rfl
  | n + 1 => by
    have ih := p_smW M lo a n
    have e1 : smW (pre3 ++ M) (lo + 3) (a + 3) (n + 1) = smW (pre3 ++ M) (lo + 3) (a + 3) n + wt (pre3 ++ M) (lo + 3) (a + 3 + n) := rfl
    have e2 : smW M lo a (n + 1) = smW M lo a n + wt M lo (a + n) := rfl
    have e3 : wt (pre3 ++ M) (lo + 3) (a + n + 3) = wt M lo (a + n) := p_wtA M lo (a + n) (a + n)
    rw [e1, e2, ih, show a + 3 + n = a + n + 3 by omega, e3]
theorem p_Sm (M : List In) (lo a b : Nat) : Sm (pre3 ++ M) (lo + 3) (a + 3) (b + 3) = Sm M lo a b := by
  unfold Sm
  rw [show b + 3 - (a + 3) = b - a by omega]
  exact p_smW M lo a (b - a)
theorem p_spn (M : List In) (hl : M.length ≤ 20) (h : okP M = true) (hT : okP (pre3 ++ M) = true) {k : Nat} (hk : k < M.length) (h9 : (gt M k).1 = 9) : spn (pre3 ++ M) (k + 3) = spn M k := by
  have hlen := p_len M
  rcases opn_keep h h9 (M.length - (k + 1)) (by omega) with ih | ⟨u, a1, a2, a3, a4, a5, a6, a7⟩
  · have := ih M.length hk (by omega)
    rw [opn_end h] at this
    cases this
  · have o1 := un_pair h (by omega) a3 a4
    have o2 := un_pair hT (u := u + 3) (k := k + 3) (by omega) (by rw [p_gt]; exact a3) (by rw [show u + 3 + 1 = u + 1 + 3 by omega, p_opn M hl, p_opn M hl, a4]; simp)
    unfold spn
    rw [o1, o2, p_gt]
    have e : Sm (pre3 ++ M) (k + 1 + 3) (k + 1 + 3) (u + 1 + 3) = Sm M (k + 1) (k + 1) (u + 1) := p_Sm M (k + 1) (k + 1) (u + 1)
    rw [show ((u + 3 : Nat) : Int).toNat + 1 = u + 1 + 3 by omega, show k + 3 + 1 = k + 1 + 3 by omega, e]
    rfl
theorem p_spn0 (M : List In) (hT : okP (pre3 ++ M) = true) : spn (pre3 ++ M) 0 = (3, 2) := by
  have hlen := p_len M
  have o1 : opn (pre3 ++ M) 2 = [0] := by unfold opn; rw [p_run2]; rfl
  have o2 : opn (pre3 ++ M) (2 + 1) = [] := by unfold opn; rw [p_run3]; rfl
  have o3 := un_pair hT (u := 2) (k := 0) (by omega) rfl (by rw [o1, o2]; rfl)
  have w1 : wt (pre3 ++ M) 1 1 = 1 := wt_low
  have w2 : wt (pre3 ++ M) 1 2 = 1 := wtA_one fun f h1 h2 => by rw [inB_no, ← inA_iff, p_in3 M (by omega)]; simp
  have s1 := Sm_one (pre3 ++ M) 1 1
  have s2 : Sm (pre3 ++ M) 1 1 (2 + 1) = Sm (pre3 ++ M) 1 1 2 + wt (pre3 ++ M) 1 2 := Sm_succ (by omega)
  have s3 : Sm (pre3 ++ M) (0 + 1) (0 + 1) (((2 : Nat) : Int).toNat + 1) = 2 := by
    show Sm (pre3 ++ M) 1 1 (2 + 1) = 2
    rw [s2, w2]
    have : Sm (pre3 ++ M) 1 1 2 = 1 := s1.trans w1
    omega
  unfold spn
  rw [o3, s3]
  rfl
theorem p_spL (M : List In) (hl : M.length ≤ 20) (h : okP M = true) (hT : okP (pre3 ++ M) = true) : ∀ k, k ≤ M.length → spL (pre3 ++ M) (k + 3) = (3, 2) :: spL M k
  | 0, _ => by
    show spL (pre3 ++ M) 3 = _
    have e2 : spL (pre3 ++ M) (2 + 1) = spL (pre3 ++ M) 2 := spL_no (show ¬ (gt (pre3 ++ M) 2).1 = 9 by show ¬ (10 : Int) = 9; decide)
    have e1 : spL (pre3 ++ M) (1 + 1) = spL (pre3 ++ M) 1 := spL_no (show ¬ (gt (pre3 ++ M) 1).1 = 9 by show ¬ (1 : Int) = 9; decide)
    have e0 : spL (pre3 ++ M) (0 + 1) = spL (pre3 ++ M) 0 ++ [spn (pre3 ++ M) 0] := spL_yes (show (gt (pre3 ++ M) 0).1 = 9 from rfl)
    rw [p_spn0 M hT] at e0
    exact e2.trans (e1.trans e0)
  | k + 1, hk => by
    have ih := p_spL M hl h hT k (by omega)
    rw [show k + 1 + 3 = k + 3 + 1 by omega]
    by_cases h9 : (gt M k).1 = 9
    · rw [spL_yes (by rw [p_gt]; exact h9), spL_yes h9, ih, p_spn M hl h hT (by omega) h9]
      rfl
    · rw [spL_no (by rw [p_gt]; exact h9), spL_no h9, ih]
theorem okP_of {l : List In} (h : okB l = true) : okP l = true := by
  unfold okB at h
  simp only [Bool.and_eq_true] at h
  exact h.1.2
theorem spa_ahead {r p e r' p' e' : Int} {M W O O' : List In} (h0 : erT r p e M W O = 0) (h1 : erT r' p' e' (pre3 ++ M) W O' = 0) (hl : M.length ≤ 20) : spaT 0 (pre3 ++ M) W = (3, 2) :: spaT 0 M W := by
  obtain ⟨_, _, _, k0, _⟩ := er0 h0
  obtain ⟨_, _, _, k1, _⟩ := er0 h1
  have e1 : spaT 0 (pre3 ++ M) W = spL (pre3 ++ M) (pre3 ++ M).length ++ tws W := if_pos rfl
  have e2 : spaT 0 M W = spL M M.length ++ tws W := if_pos rfl
  rw [e1, e2, p_len, p_spL M hl (okP_of k0) (okP_of k1) _ (Nat.le_refl _)]
  rfl
theorem set_at {SP : List Sn} {k : Nat} (hk : k < SP.length) (X : Sn) (j : Nat) : (SP.set k X).getD j [] = if j = k then X else SP.getD j [] := by
  rw [List.getD_eq_getElem?_getD, List.getElem?_set]
  by_cases h : k = j
  · subst h
    rw [if_pos rfl, if_pos hk, if_pos rfl]; rfl
  · rw [if_neg h, if_neg (fun e => h e.symm), List.getD_eq_getElem?_getD]
theorem mem_no3 {S : Sn} {s : Int} (h : isS S s = false) {x : Int × Int} (hx : x ∈ S) : x.1 ≠ s := fun e => by
  have : isS S s = true := List.any_eq_true.2 ⟨x, hx, by simp [e]⟩
  rw [h] at this; cases this
theorem ceil_set {SP : List Sn} {n k : Nat} (hn : SP.length = n) (hk : k < n) (s : Int) (hs : s ≠ 3) : ceilv (SP.set k ((3, 2) :: SP.getD k [])) n s = ceilv SP n s := by
  have e : ∀ j, isS ((SP.set k ((3, 2) :: SP.getD k [])).getD j []) s = isS (SP.getD j []) s := fun j => by
    rw [set_at (by omega)]
    by_cases h : j = k
    · rw [if_pos h, h]
      unfold isS
      rw [List.any_cons]
      have : ((3 : Int) == s) = false := by simpa using fun h => hs h.symm
      rw [this]; rfl
    · rw [if_neg h]
  refine (ceil_is _ n s).one ?_
  rcases ceil_is SP n s with ⟨e1, h0⟩ | ⟨j, hj, e1, h1, h0⟩
  · exact .inl ⟨e1, fun j hj => by rw [e]; exact h0 j hj⟩
  · exact .inr ⟨j, hj, e1, by rw [e]; exact h1, fun j hj => by rw [e]; exact h0 j hj⟩
theorem ceil_set3 {SP : List Sn} {n k : Nat} (hn : SP.length = n) (hk : k < n) (h3 : ∀ j, isS (SP.getD j []) 3 = false) : ceilv (SP.set k ((3, 2) :: SP.getD k [])) n 3 = (k : Int) := by
  refine (ceil_is _ n 3).at hk ?_ ?_
  · rw [set_at (by omega), if_pos rfl]; rfl
  · intro j hj
    rw [set_at (by omega), if_neg (by omega)]; exact h3 j
theorem by_char {SP : List Sn} {n k i : Nat} (hn : SP.length = n) (hk : k < n) (h3 : ∀ j, isS (SP.getD j []) 3 = false) (v : Int) : byN (SP.set k ((3, 2) :: SP.getD k [])) n i 4 ≤ v ↔ byN SP n i 4 ≤ v ∧ (k < i → 2 ≤ v) := by
  rw [byN_le, byN_le]
  have hset := fun j => set_at (SP := SP) (k := k) (by omega) ((3, 2) :: SP.getD k []) j
  constructor
  · rintro ⟨h0, h⟩
    refine ⟨⟨h0, fun j hj hne x hx x0 x4 hc => ?_⟩, fun hi => ?_⟩
    · have hm : x ∈ (SP.set k ((3, 2) :: SP.getD k [])).getD j [] := by
        rw [hset]
        by_cases e : j = k
        · rw [if_pos e, ← e]; exact List.mem_cons_of_mem _ hx
        · rw [if_neg e]; exact hx
      exact h j hj hne x hm x0 x4 (by rw [ceil_set hn hk _ (mem_no3 (h3 j) hx)]; exact hc)
    · exact h k hk (by omega) (3, 2) (by rw [hset, if_pos rfl]; simp) (by decide) (by decide) (by rw [ceil_set3 hn hk h3]; omega)
  · rintro ⟨⟨h0, h⟩, h2⟩
    refine ⟨h0, fun j hj hne x hx x0 x4 hc => ?_⟩
    have hold : x ∈ SP.getD j [] → x.2 ≤ v := fun hm => h j hj hne x hm x0 x4 (by rw [ceil_set hn hk _ (mem_no3 (h3 j) hm)] at hc; exact hc)
    rw [hset] at hx
    by_cases e : j = k
    · rw [if_pos e] at hx
      rcases List.mem_cons.1 hx with rfl | hx
      · rw [ceil_set3 hn hk h3] at hc
        exact h2 (by omega)
      · exact hold (by rw [e]; exact hx)
    · rw [if_neg e] at hx
      exact hold hx
theorem by_longer {SP : List Sn} {n k i : Nat} (hn : SP.length = n) (hk : k < n) (h3 : ∀ j, isS (SP.getD j []) 3 = false) (hi : i < n) : byv (SP.set k ((3, 2) :: SP.getD k [])) n i = if k < i then max (byv SP n i) 2 else byv SP n i := by
  have e1 : byv (SP.set k ((3, 2) :: SP.getD k [])) n i = byN (SP.set k ((3, 2) :: SP.getD k [])) n i 4 := if_neg (by omega)
  have e2 : byv SP n i = byN SP n i 4 := if_neg (by omega)
  rw [e1, e2]
  have hc := fun v => by_char (i := i) hn hk h3 v
  have h1 := (hc _).1 (Int.le_refl _)
  by_cases h : k < i
  · rw [if_pos h]
    have h2 := (hc (max (byN SP n i 4) 2)).2 ⟨by omega, fun _ => by omega⟩
    have := h1.2 h
    omega
  · rw [if_neg h]
    have h2 := (hc (byN SP n i 4)).2 ⟨Int.le_refl _, fun h' => absurd h' h⟩
    omega
theorem lk3_no {M W : List In} (hM : Lk3 M) (hW : Lk3 W) : isS (spaT 0 M W) 3 = false := by
  rw [isS_spa]
  refine lockS_no fun j hj h => ?_
  have := (hM.app hW) _ (List.getElem_mem hj) h.1
  omega
end Go.Proofs.Yteklpceikddggaa
