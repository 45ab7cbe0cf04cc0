/-
  A box as two rows; what becomes of it; what a map of all its answers says; nothing of a program's text.
-/
namespace Go.Proofs.Ytfghondhonflaaa
def postB (L Q : List Int) : Bool := !Q.isEmpty || decide (L.length < 4)
def postC (Q : List Int) : Int := Q.headD 0
def postL (L Q : List Int) (v : Int) : List Int := if Q.isEmpty && decide (L.length < 4) then L ++ [v] else L
def postQ (Q : List Int) : List Int := Q.drop 1
def takeGot (L : List Int) (c : Int) : Bool := decide (0 < c) && !L.isEmpty
def takeOk (L Q : List Int) (c : Int) : Bool := decide (0 < c) && (!L.isEmpty || (!(Q.any (· == c)) && decide (Q.length < 4)))
def takeV (L : List Int) (c : Int) : Int := if takeGot L c then L.headD 0 else 0
def takeL (L : List Int) (c : Int) : List Int := if decide (0 < c) then L.drop 1 else L
def takeQ (L Q : List Int) (c : Int) : List Int := if decide (0 < c) && (L.isEmpty && (!(Q.any (· == c)) && decide (Q.length < 4))) then Q ++ [c] else Q
/-- what a map of all answers on a box says -/
structure Lk (f : Int → Int → Option Int) (L Q : List Int) : Prop where
  l : ∀ t, f 0 t = if 0 ≤ t then L[t.toNat]? else none
  q : ∀ t, f 1 t = if 0 ≤ t then Q[t.toNat]? else none
  c : ∀ t, (f 2 t).isSome = Q.any (· == t)
theorem Lk.none : Lk (fun _ _ => Option.none) [] [] := ⟨fun t => by simp, fun t => by simp, fun t => by simp⟩
def updF (f : Int → Int → Option Int) (s t v : Int) : Int → Int → Option Int := fun a b => if a = s ∧ b = t then some v else f a b
theorem take_get {l : List Int} {k : Nat} (hk : k < l.length) (t : Nat) : (l.take (k + 1))[t]? = if t = k then some l[k] else (l.take k)[t]? := by
  rw [List.getElem?_take, List.getElem?_take]
  by_cases h : t = k
  · subst h
    simp [List.getElem?_eq_getElem hk]
  · rw [if_neg h]
    by_cases h1 : t < k
    · rw [if_pos h1, if_pos (by omega)]
    · rw [if_neg h1, if_neg (by omega)]
theorem Lk.letter {f : Int → Int → Option Int} {L : List Int} {k : Nat} (hk : k < L.length) (h : Lk f (L.take k) []) : Lk (updF f 0 k L[k]) (L.take (k + 1)) [] := by
  refine ⟨fun t => ?_, fun t => ?_, fun t => ?_⟩
  · unfold updF
    by_cases ht : t = k
    · subst ht
      rw [if_pos ⟨rfl, rfl⟩, if_pos (by omega), take_get hk]
      simp
    · rw [if_neg (fun e => ht e.2), h.l t]
      by_cases h0 : 0 ≤ t
      · rw [if_pos h0, if_pos h0, take_get hk, if_neg (by omega)]
      · rw [if_neg h0, if_neg h0]
  · unfold updF
    rw [if_neg (by omega)]
    exact h.q t
  · unfold updF
    rw [if_neg (by omega)]
    exact h.c t
theorem Lk.who {f : Int → Int → Option Int} {L Q : List Int} {k : Nat} (hk : k < Q.length) (h : Lk f L (Q.take k)) : Lk (updF (updF f 1 k Q[k]) 2 Q[k] k) L (Q.take (k + 1)) := by
  refine ⟨fun t => ?_, fun t => ?_, fun t => ?_⟩
  · unfold updF
    rw [if_neg (by omega), if_neg (by omega)]
    exact h.l t
  · unfold updF
    rw [if_neg (by omega)]
    by_cases ht : t = k
    · subst ht
      rw [if_pos ⟨rfl, rfl⟩, if_pos (by omega), take_get hk]
      simp
    · rw [if_neg (fun e => ht e.2), h.q t]
      by_cases h0 : 0 ≤ t
      · rw [if_pos h0, if_pos h0, take_get hk, if_neg (by omega)]
      · rw [if_neg h0, if_neg h0]
  · unfold updF
    rw [List.take_succ_eq_append_getElem hk, List.any_append, ← h.c t]
    by_cases ht : t = Q[k]
    · rw [if_pos ⟨rfl, ht⟩]
      simp [ht]
    · rw [if_neg (fun e => ht e.2), if_neg (by omega)]
      simp [Ne.symm ht]
/-- the four questions -/
theorem Lk.first {f : Int → Int → Option Int} {L Q : List Int} (h : Lk f L Q) : f 0 0 = L.head? ∧ f 1 0 = Q.head? ∧ f 0 3 = L[3]? ∧ f 1 3 = Q[3]? := by
  refine ⟨?_, ?_, ?_, ?_⟩
  · rw [h.l]; simp [List.head?_eq_getElem?]
  · rw [h.q]; simp [List.head?_eq_getElem?]
  · rw [h.l]; rfl
  · rw [h.q]; rfl
theorem three_some (l : List Int) : (l[3]?).isSome = decide (4 ≤ l.length) := by
  by_cases h : 4 ≤ l.length
  · rw [List.getElem?_eq_getElem (by omega)]; simp [h]
  · rw [List.getElem?_eq_none (by omega)]; simp [h]
end Go.Proofs.Ytfghondhonflaaa
