/-
  One more that locks nothing; the longest of all spans: plain facts.
-/
import Derived.Test.YteklpceikddggaaBmath
namespace Go.Proofs.Yteklpceikddggaa

theorem IsCeil.one {SP : List Sn} {n : Nat} {s C D : Int} (h : IsCeil SP n s C) (h2 : IsCeil SP n s D) : C = D := by
  rcases h2 with ⟨e, h0⟩ | ⟨k, hk, e, h1, h0⟩
  · rw [e]; exact h.none h0
  · rw [e]; exact h.at hk h1 h0
theorem getD_left {SP T : List Sn} {j : Nat} (h : j < SP.length) : (SP ++ T).getD j [] = SP.getD j [] := by
  rw [List.getD_eq_getElem?_getD, List.getD_eq_getElem?_getD, List.getElem?_append_left h]
theorem getD_none (SP : List Sn) : (SP ++ [[]]).getD SP.length [] = [] := by
  rw [List.getD_eq_getElem?_getD, List.getElem?_append_right (Nat.le_refl _)]; simp
theorem ceil_more {SP : List Sn} {n : Nat} (hn : SP.length = n) (s : Int) : ceilv (SP ++ [[]]) (n + 1) s = ceilv SP n s := by
  refine (ceil_is (SP ++ [[]]) (n + 1) s).one ?_
  rcases ceil_is SP n s with ⟨e, h0⟩ | ⟨k, hk, e, h1, h0⟩
  · refine .inl ⟨e, fun j hj => ?_⟩
    by_cases h : j < n
    · rw [getD_left (by omega)]; exact h0 j h
    · obtain rfl : j = SP.length := by omega
      rw [getD_none]; rfl
  · exact .inr ⟨k, by omega, e, by rw [getD_left (by omega)]; exact h1, fun j hj => by rw [getD_left (by omega)]; exact h0 j hj⟩
theorem by_more {SP : List Sn} {n : Nat} (hn : SP.length = n) {i : Int} (hi : i < (n : Int)) : byv (SP ++ [[]]) (n + 1) i = byv SP n i := by
  unfold byv
  rw [if_neg (by omega), if_neg (by omega)]
  have h1 : byN (SP ++ [[]]) (n + 1) i 4 ≤ byN SP n i 4 := (byN_le _ _ _ _ _).2 ⟨((byN_le SP n i 4 _).1 (Int.le_refl _)).1, fun j hj hne x hx x0 x4 hc => by
    by_cases h : j < n
    · rw [getD_left (by omega)] at hx
      rw [ceil_more hn] at hc
      exact ((byN_le SP n i 4 _).1 (Int.le_refl _)).2 j h hne x hx x0 x4 hc
    · obtain rfl : j = SP.length := by omega
      rw [getD_none] at hx; cases hx⟩
  have h2 : byN SP n i 4 ≤ byN (SP ++ [[]]) (n + 1) i 4 := (byN_le _ _ _ _ _).2 ⟨((byN_le (SP ++ [[]]) (n + 1) i 4 _).1 (Int.le_refl _)).1, fun j hj hne x hx x0 x4 hc => by
    refine ((byN_le (SP ++ [[]]) (n + 1) i 4 _).1 (Int.le_refl _)).2 j (by omega) hne x (by rw [getD_left (by omega)]; exact hx) x0 x4 (by rw [ceil_more hn]; exact hc)⟩
  omega
theorem by_pos (SP : List Sn) (n : Nat) (i : Int) : 0 ≤ byv SP n i := by
  unfold byv
  split
  · exact Int.le_refl _
  · exact ((byN_le SP n i 4 _).1 (Int.le_refl _)).1
theorem by_one (SP : List Sn) : byv SP 1 0 = 0 := by
  have h := by_pos SP 1 0
  have h2 : byv SP 1 0 ≤ 0 := by
    unfold byv
    rw [if_neg (by decide)]
    exact (byN_le SP 1 0 4 0).2 ⟨Int.le_refl _, fun j hj hne => absurd (by omega : j = 0) (fun e => hne (by rw [e]; rfl))⟩
  omega
/-- the longest of a row's spans -/
def mosS (a : Int) (S : Sn) : Int := S.foldl (fun a x => max a x.2) a
def mosN (SP : List Sn) : Nat → Int
  | 0 => 0
  | k + 1 => mosS (mosN SP k) (SP.getD k [])
theorem mosS_snoc (a : Int) (S : Sn) (x : Int × Int) : mosS a (S ++ [x]) = max (mosS a S) x.2 := by
  unfold mosS
  rw [List.foldl_append]
  rfl
theorem mosS_le : ∀ (S : Sn) (a v : Int), mosS a S ≤ v ↔ a ≤ v ∧ ∀ x ∈ S, x.2 ≤ v
  | [], a, v => by simp [mosS]
  | y :: r, a, v => by
    have ih := mosS_le r (max a y.2) v
    have e : mosS a (y :: r) = mosS (max a y.2) r := rfl
    rw [e, ih]
    constructor
    · rintro ⟨h1, h2⟩
      exact ⟨by omega, fun x hx => by rcases List.mem_cons.1 hx with rfl | hx; omega; exact h2 x hx⟩
    · rintro ⟨h1, h2⟩
      have := h2 y (by simp)
      exact ⟨by omega, fun x hx => h2 x (by simp [hx])⟩
theorem mosN_le (SP : List Sn) : ∀ (k : Nat) (v : Int), mosN SP k ≤ v ↔ 0 ≤ v ∧ ∀ j : Nat, j < k → ∀ x ∈ SP.getD j [], x.2 ≤ v
  | 0, v => by simp [mosN]
  | k + 1, v => by
    have ih := mosN_le SP k v
    rw [mosN, mosS_le, ih]
    constructor
    · rintro ⟨⟨h1, h2⟩, h3⟩
      refine ⟨h1, fun j hj => ?_⟩
      by_cases e : j = k
      · rw [e]; exact h3
      · exact h2 j (by omega)
    · rintro ⟨h1, h2⟩
      exact ⟨⟨h1, fun j hj => h2 j (by omega)⟩, h2 k (by omega)⟩
theorem ceil_low {SP : List Sn} {n j : Nat} (hj : j < n) {x : Int × Int} (hx : x ∈ SP.getD j []) : ceilv SP n x.1 ≤ (j : Int) := by
  have hs : isS (SP.getD j []) x.1 = true := List.any_eq_true.2 ⟨x, hx, by simp⟩
  rcases ceil_is SP n x.1 with ⟨_, h0⟩ | ⟨k, hk, e, h1, h0⟩
  · rw [h0 j hj] at hs; cases hs
  · rw [e]
    apply Decidable.byContradiction
    intro hc
    rw [h0 j (by omega)] at hs; cases hs
/-- who is behind all is held up by the longest -/
theorem by_last {SP : List Sn} {n : Nat} (hn : SP.length = n) (h4 : Low4 SP) : byv (SP ++ [[]]) (n + 1) (n : Int) = mosN SP n := by
  unfold byv
  rw [if_neg (by omega)]
  have h1 : byN (SP ++ [[]]) (n + 1) n 4 ≤ mosN SP n := (byN_le _ _ _ _ _).2 ⟨((mosN_le SP n _).1 (Int.le_refl _)).1, fun j hj hne x hx x0 x4 hc => by
    have h : j < n := by omega
    rw [getD_left (by omega)] at hx
    exact ((mosN_le SP n _).1 (Int.le_refl _)).2 j h x hx⟩
  have h2 : mosN SP n ≤ byN (SP ++ [[]]) (n + 1) n 4 := (mosN_le _ _ _).2 ⟨((byN_le (SP ++ [[]]) (n + 1) n 4 _).1 (Int.le_refl _)).1, fun j hj x hx => by
    have hl := getD_low h4 j x hx
    have hc := ceil_low hj hx
    exact ((byN_le (SP ++ [[]]) (n + 1) n 4 _).1 (Int.le_refl _)).2 j (by omega) (by omega) x (by rw [getD_left (by omega)]; exact hx) hl.1 hl.2 (by rw [ceil_more hn]; omega)⟩
  omega
end Go.Proofs.Yteklpceikddggaa
