/-
  How often each instruction is done, by a row of areas: plain facts.
-/
import Derived.Test.YteikdocpncdheaaCostp
namespace Go.Proofs.Yteikdocpncdheaa

def prF (l : List In) (i : Nat) (L : List Nat) : Nat := L.foldl (fun p f => if inB l f i = true then p * nOf l f else p) 1
theorem prF_snoc (l : List In) (i : Nat) (L : List Nat) (f : Nat) : prF l i (L ++ [f]) = if inB l f i = true then prF l i L * nOf l f else prF l i L := by simp [prF]
theorem prF_ar (l : List In) (i : Nat) : ∀ k, prF l i (arI l k) = wtA l 0 i k
  | 0 => rfl
  | k + 1 => by
    have ih := prF_ar l i k
    cases ha : isAr l k with
    | true =>
      rw [arI_yes ha, prF_snoc, ih]
      cases hb : inB l k i with
      | true => rw [if_pos rfl, wtA_yes (by omega) hb]
      | false => rw [if_neg (by simp), wtA_no hb]
    | false =>
      have hb : inB l k i = false := by
        rw [inB_no, isAr_no ha]
        omega
      rw [arI_no ha, ih, wtA_no hb]
theorem wt_full (l : List In) {i : Nat} : ∀ {k : Nat}, i ≤ k → wtA l 0 i k = wt l 0 i
  | 0, h => by
    obtain rfl : i = 0 := by omega
    rfl
  | k + 1, h => by
    by_cases e : i = k + 1
    · subst e; rfl
    · rw [wtA_no (inB_no.2 (by omega)), wt_full l (by omega)]
theorem prF_mono {l : List In} (h : l.all mayB = true) (i : Nat) : ∀ (L2 L1 : List Nat), prF l i L1 ≤ prF l i (L1 ++ L2)
  | [], L1 => by rw [List.append_nil]; exact Nat.le_refl _
  | f :: r, L1 => by
    have h1 : prF l i L1 ≤ prF l i (L1 ++ [f]) := by
      rw [prF_snoc]
      split
      · rename_i hb
        exact Nat.le_mul_of_pos_right _ (nOf_bd h (inB_iff.1 hb).2).1
      · exact Nat.le_refl _
    have h2 := prF_mono h i r (L1 ++ [f])
    rw [List.append_assoc] at h2
    exact Nat.le_trans h1 h2
theorem prF_all (l : List In) {i : Nat} (hi : i < l.length) : prF l i (arI l l.length) = wt l 0 i := by rw [prF_ar, wt_full l (by omega)]
theorem prF_take {l : List In} (hP : Prg l) {i : Nat} (hi : i < l.length) (a : Nat) : prF l i ((arI l l.length).take a) ≤ 400 := by
  have h1 := prF_mono hP.all i ((arI l l.length).drop a) ((arI l l.length).take a)
  rw [List.take_append_drop, prF_all l hi] at h1
  exact Nat.le_trans h1 (hP.wt_le hi)
theorem prF_next {l : List In} {i a : Nat} (ha : a < (arI l l.length).length) : prF l i ((arI l l.length).take (a + 1)) = if inB l (arI l l.length)[a] i = true then prF l i ((arI l l.length).take a) * nOf l (arI l l.length)[a] else prF l i ((arI l l.length).take a) := by
  rw [List.take_succ_eq_append_getElem ha, prF_snoc]
def tmA (l : List In) (n k : Nat) : List Int := (List.range n).map fun j => if j < k then ((wt l 0 j : Nat) : Int) else 0
theorem tmA_len (l : List In) (n k : Nat) : (tmA l n k).length = n := by simp [tmA]
theorem tmA_zero (l : List In) (n : Nat) : tmA l n 0 = List.replicate n 0 := by
  apply List.ext_getElem (by simp [tmA])
  intro i h1 h2
  simp [tmA]
theorem tmA_next (l : List In) (n k : Nat) : tmA l n (k + 1) = (tmA l n k).set k ((wt l 0 k : Nat) : Int) := by
  apply List.ext_getElem (by simp [tmA])
  intro i h1 h2
  rw [List.getElem_set]
  by_cases e : k = i
  · subst e; simp [tmA]
  · have : (i < k + 1) = (i < k) := by apply propext; omega
    simp [tmA, e, this]
theorem tmA_get {l : List In} {n i : Nat} (hi : i < n) : (tmA l n n)[i]'(by rw [tmA_len]; exact hi) = ((wt l 0 i : Nat) : Int) := by simp [tmA, hi]
end Go.Proofs.Yteikdocpncdheaa
