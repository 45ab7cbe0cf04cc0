/-
  Bodies and reaches as a row, and which programs may be by them: plain facts.
-/
import Derived.Test.YteikdocpncdheaaGoods
import Derived.Test.YteikdocpncdheaaPairm
namespace Go.Proofs.Yteikdocpncdheaa

def isAr (l : List In) (f : Nat) : Bool := (gt l f).1 == 7 || (gt l f).1 == 8
/-- whose bodies and reaches there are, among the first k -/
def arI (l : List In) (k : Nat) : List Nat := (List.range k).filter (isAr l)
abbrev Ar := Int × Int × Int × Bool
def arE (l : List In) (f : Nat) : Ar := ((f : Int) + 1, (f : Int) + reachI (gt l f), (f : Int), (gt l f).1 == 8)
def arL (l : List In) (k : Nat) : List Ar := (arI l k).map (arE l)
theorem arI_yes {l : List In} {k : Nat} (h : isAr l k = true) : arI l (k + 1) = arI l k ++ [k] := by simp [arI, List.range_succ, List.filter_append, h]
theorem arI_no {l : List In} {k : Nat} (h : isAr l k = false) : arI l (k + 1) = arI l k := by simp [arI, List.range_succ, List.filter_append, h]
theorem arL_yes {l : List In} {k : Nat} (h : isAr l k = true) : arL l (k + 1) = arL l k ++ [arE l k] := by simp [arL, arI_yes h]
theorem arL_no {l : List In} {k : Nat} (h : isAr l k = false) : arL l (k + 1) = arL l k := by simp [arL, arI_no h]
theorem arL_len (l : List In) (k : Nat) : (arL l k).length = (arI l k).length := by simp [arL]
theorem arI_le (l : List In) (k : Nat) : (arI l k).length ≤ k := by have := List.length_filter_le (isAr l) (List.range k); simpa [arI] using this
theorem arI_mem {l : List In} {k f : Nat} : f ∈ arI l k ↔ f < k ∧ isAr l f = true := by simp [arI]
theorem arI_nodup (l : List In) (k : Nat) : (arI l k).Nodup := (List.nodup_range).sublist List.filter_sublist
theorem isAr_no {l : List In} {f : Nat} (h : isAr l f = false) : rch (gt l f) = 0 := by
  unfold isAr at h
  simp at h
  exact rch_op h.1 h.2
theorem isAr_lt {l : List In} {f : Nat} (h : isAr l f = true) : f < l.length := by
  apply Decidable.byContradiction
  intro hn
  rw [isAr, gt_out (by omega)] at h
  exact absurd h (by decide)
/-- an area has i -/
theorem has_iff {l : List In} (ha : l.all mayB = true) (f i : Nat) : (decide ((f : Int) + 1 ≤ (i : Int)) && decide ((i : Int) ≤ (f : Int) + reachI (gt l f))) = inA l f i := by
  have := rch_eq (all_gt ha f)
  rw [Bool.eq_iff_iff, inA_iff]
  simp
  omega
theorem inA_ar {l : List In} {f i : Nat} (h : inA l f i = true) : f ∈ arI l l.length := by
  have : isAr l f = true := by
    cases hh : isAr l f with
    | true => rfl
    | false => rw [inA_none (isAr_no hh)] at h; cases h
  exact arI_mem.2 ⟨isAr_lt this, this⟩
theorem scope_iff {l : List In} (hl : l.length ≤ 24) {k i : Nat} : scL l k = scL l i ↔ ∀ f ∈ arI l l.length, inA l f k = inA l f i := by
  rw [scL_eq]
  constructor
  · intro h f hf
    have := (arI_mem.1 hf).1
    exact h f (by omega)
  · intro h f _
    by_cases hf : f ∈ arI l l.length
    · exact h f hf
    · have e : ∀ j, inA l f j = false := fun j => by
        rw [Bool.eq_false_iff]
        exact fun hh => hf (inA_ar hh)
      rw [e, e]

def nestR (l : List In) : Prop := (∀ f ∈ arI l l.length, f + rch (gt l f) + 1 < l.length) ∧ ∀ f ∈ arI l l.length, ∀ g ∈ arI l l.length, inA l f g = true → g + rch (gt l g) ≤ f + rch (gt l f)
theorem clos_iff' {l : List In} : closB l = true ↔ ∀ i, i < l.length → (i : Int) + reachI (gt l i) < l.length := by simp [closB, allN_iff]
theorem gt_ahd {l : List In} {i : Nat} (h : i + 1 < l.length) : gt (ahd l) i = gt l i := by
  unfold gt ahd
  simp [List.getD_eq_getElem?_getD, List.getElem?_take]
  rw [if_pos (by omega)]
theorem nest_iff {l : List In} (h1 : 1 ≤ l.length) (ha : l.all mayB = true) (he : (gt l (l.length - 1)).1 = 0) : nestB l = true ↔ nestR l := by
  have hlen : (ahd l).length = l.length - 1 := by simp [ahd]
  have hr : ∀ i, (rch (gt l i) : Int) = reachI (gt l i) := fun i => rch_eq (all_gt ha i)
  have hlast : ∀ f ∈ arI l l.length, f + 1 < l.length := by
    intro f hf
    obtain ⟨a, b⟩ := arI_mem.1 hf
    have : f ≠ l.length - 1 := by
      rintro rfl
      rw [isAr, he] at b
      exact absurd b (by decide)
    omega
  unfold nestB
  rw [Bool.and_eq_true, clos_iff', allN_iff]
  constructor
  · rintro ⟨c1, c2⟩
    have k1 : ∀ f ∈ arI l l.length, f + rch (gt l f) + 1 < l.length := by
      intro f hf
      have hl := hlast f hf
      have := c1 f (by omega)
      rw [gt_ahd hl, hlen] at this
      have := hr f
      omega
    refine ⟨k1, fun f hf g hg hin => ?_⟩
    have hl := hlast f hf
    have hk := k1 f hf
    have hin := inA_iff.1 hin
    have := c2 f (by omega)
    have hl2 : (((ahd l).drop (f + 1)).take (rch (gt l f))).length = rch (gt l f) := by simp [hlen]; omega
    have := clos_iff'.1 this (g - (f + 1)) (by rw [hl2]; omega)
    rw [gt_sub (by omega), hl2, show f + 1 + (g - (f + 1)) = g by omega, gt_ahd (by omega)] at this
    have := hr g
    omega
  · rintro ⟨c1, c2⟩
    refine ⟨fun i hi => ?_, fun f hf => ?_⟩
    · rw [hlen] at hi ⊢
      rw [gt_ahd (by omega), ← hr]
      by_cases hf : isAr l i = true
      · have := c1 i (arI_mem.2 ⟨by omega, hf⟩)
        omega
      · rw [isAr_no (by simpa using hf)]
        omega
    · by_cases hfa : isAr l f = true
      · have hfm := arI_mem.2 ⟨isAr_lt hfa, hfa⟩
        have hk := c1 f hfm
        have hl2 : (((ahd l).drop (f + 1)).take (rch (gt l f))).length = rch (gt l f) := by simp [hlen]; omega
        refine clos_iff'.2 (fun j hj => ?_)
        rw [hl2] at hj ⊢
        rw [gt_sub hj, gt_ahd (by omega), ← hr]
        by_cases hg : isAr l (f + 1 + j) = true
        · have := c2 f hfm _ (arI_mem.2 ⟨isAr_lt hg, hg⟩) (inA_iff.2 (by omega))
          omega
        · rw [isAr_no (by simpa using hg)]
          omega
      · rw [isAr_no (by simpa using hfa)]
        rfl
/-- counting over the row of areas -/
def cntA (l : List In) (k i : Nat) (p : Nat → Bool) : Nat := (((arI l l.length).take k).filter fun f => inA l f i && p f).length
theorem cntA_step {l : List In} {k i : Nat} {p : Nat → Bool} (h : k < (arI l l.length).length) : cntA l (k + 1) i p = cntA l k i p + if (inA l (arI l l.length)[k] i && p (arI l l.length)[k]) = true then 1 else 0 := by
  unfold cntA
  rw [List.take_succ_eq_append_getElem h, List.filter_append, List.length_append]
  congr 1
  by_cases hc : (inA l (arI l l.length)[k] i && p (arI l l.length)[k]) = true
  · rw [if_pos hc]; simp only [List.filter, hc]; rfl
  · have hc' : (inA l (arI l l.length)[k] i && p (arI l l.length)[k]) = false := by simpa using hc
    rw [if_neg hc]; simp only [List.filter, hc']; rfl
theorem cntA_le (l : List In) (k i : Nat) (p : Nat → Bool) : cntA l k i p ≤ k := by
  have := List.length_filter_le (fun f => inA l f i && p f) ((arI l l.length).take k)
  have h2 := List.length_take_le k (arI l l.length)
  unfold cntA
  omega
theorem cntA_all {l : List In} (hl : l.length ≤ 24) (i : Nat) (p : Nat → Bool) : cntA l (arI l l.length).length i p = cntN 24 fun f => inA l f i && p f := by
  unfold cntA cntN
  rw [List.take_length, arI, List.filter_filter]
  have h24 : List.range 24 = List.range l.length ++ (List.range (24 - l.length)).map (l.length + ·) := by
    have := List.range_add (n := l.length) (m := 24 - l.length)
    rw [show l.length + (24 - l.length) = 24 by omega] at this
    exact this
  rw [h24, List.filter_append]
  have e2 : ((List.range (24 - l.length)).map (l.length + ·)).filter (fun f => inA l f i && p f) = [] := by
    rw [List.filter_eq_nil_iff]
    intro f hf hh
    simp at hf
    obtain ⟨a, _, rfl⟩ := hf
    rw [inA_none (rch_out (by omega))] at hh
    cases hh
  rw [e2, List.append_nil]
  congr 1
  apply List.filter_congr
  intro f _
  cases hh : isAr l f with
  | true => simp
  | false => rw [inA_none (isAr_no hh)]; rfl
theorem body_cnt {l : List In} (hl : l.length ≤ 24) (i : Nat) : cntA l (arI l l.length).length i (fun f => (gt l f).1 == 8) = bodN l i 24 := cntA_all hl i _
theorem all_cnt {l : List In} (hl : l.length ≤ 24) (i : Nat) : cntA l (arI l l.length).length i (fun _ => true) = 0 ↔ scL l i = List.replicate 24 0 := by
  rw [cntA_all hl, scL_zero]
  unfold cntN
  rw [List.length_eq_zero_iff, List.filter_eq_nil_iff]
  simp
def heldN (l : List In) (U : List Int) (i k : Nat) : Nat := cntN k fun j => (gt l j).1 == 9 && (decide (j < i) && decide ((i : Int) < U.getD j 0))
theorem held_iff {l : List In} {i : Nat} (h : Prs l (pairL l)) : heldN l (pairL l) i l.length = 0 ↔ betw (pairL l) i = false := by
  unfold heldN cntN betw
  rw [anyN_no, List.length_eq_zero_iff, List.filter_eq_nil_iff, h.len]
  constructor
  · intro hh k hk
    have := hh k (by simpa using hk)
    by_cases h9 : (gt l k).1 = 9
    · simpa [h9] using this
    · rw [h.none k h9]
      have : ¬ (i : Int) < 0 := by omega
      simp [this]
  · intro hh k hk
    rw [hh k (by simpa using hk)]
    simp
end Go.Proofs.Yteikdocpncdheaa
