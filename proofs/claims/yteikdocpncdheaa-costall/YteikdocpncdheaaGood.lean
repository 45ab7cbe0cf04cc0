/-
  Rows of plain instructions, pairs, bodies and reaches, one behind the other, and that they may be with an End behind them: plain facts.
-/
import Derived.Test.YteikdocpncdheaaShape
namespace Go.Proofs.Yteikdocpncdheaa

def plB (x : In) : Bool := mayB x && (decide (1 ≤ x.1) && decide (x.1 ≤ 6))
theorem pl_of {x : In} (h : mayP x) (h1 : 1 ≤ x.1) (h2 : x.1 ≤ 6) : plB x = true := by unfold plB; rw [may_of h]; simp [h1, h2]
theorem pl_may {x : In} (h : plB x = true) : mayB x = true := by unfold plB at h; simp at h; exact h.1
theorem pl_op {x : In} (h : plB x = true) : 1 ≤ x.1 ∧ x.1 ≤ 6 := by unfold plB at h; simp at h; exact h.2
def mayW (x : In) : Bool := mayB x && (decide (x.1 ≠ 8) || decide (x.2.2.2 ≤ 3))
theorem mw_of {x : In} (h : mayP x) (h1 : x.1 = 8 → x.2.2.2 ≤ 3) : mayW x = true := by
  unfold mayW
  rw [may_of h]
  by_cases h8 : x.1 = 8
  · simp [h1 h8]
  · simp [h8]
theorem mw_may {x : In} (h : mayW x = true) : mayB x = true := by unfold mayW at h; simp at h; exact h.1
theorem mw_rep {x : In} (h : mayW x = true) (h8 : x.1 = 8) : x.2.2.2 ≤ 3 := by unfold mayW at h; simp [h8] at h; exact h.2
theorem mw_pl {x : In} (h : plB x = true) : mayW x = true := mw_of (may_iff.1 (pl_may h)) (fun e => by have := pl_op h; omega)
theorem allW_B {l : List In} (h : l.all mayW = true) : l.all mayB = true := by
  rw [List.all_eq_true] at h ⊢
  exact fun x hx => mw_may (h x hx)
theorem allW_app {a b : List In} (ha : a.all mayW = true) (hb : b.all mayW = true) : (a ++ b).all mayW = true := by rw [List.all_append, ha, hb]; rfl

theorem gt_left {a b : List In} {i : Nat} (h : i < a.length) : gt (a ++ b) i = gt a i := by
  unfold gt
  simp [List.getD_eq_getElem?_getD, List.getElem?_append_left h]
theorem gt_right {a b : List In} {i : Nat} (h : a.length ≤ i) : gt (a ++ b) i = gt b (i - a.length) := by
  unfold gt
  simp [List.getD_eq_getElem?_getD, List.getElem?_append_right h]
theorem gt_cons {x : In} {b : List In} {i : Nat} : gt (x :: b) (i + 1) = gt b i := by simp [gt]
theorem gt_zero {x : In} {b : List In} : gt (x :: b) 0 = x := by simp [gt]
theorem rch_op {x : In} (h7 : x.1 ≠ 7) (h8 : x.1 ≠ 8) : rch x = 0 := by simp [rch, reachI, h7, h8]
theorem rch_out {l : List In} {i : Nat} (h : l.length ≤ i) : rch (gt l i) = 0 := by rw [gt_out h]; rfl

/-- plain ones and pairs -/
structure Gd0 (l : List In) : Prop where
  may : l.all mayW = true
  op : ∀ i, i < l.length → (1 ≤ (gt l i).1 ∧ (gt l i).1 ≤ 6) ∨ (gt l i).1 = 9 ∨ (gt l i).1 = 10
  lock : ∀ i, i < l.length → (gt l i).1 = 9 → i + 2 < l.length ∧ (gt l (i + 2)).1 = 10 ∧ (gt l (i + 2)).2.1 = (gt l i).2.1 ∧ 1 ≤ (gt l (i + 1)).1 ∧ (gt l (i + 1)).1 ≤ 6
  un : ∀ i, i < l.length → (gt l i).1 = 10 → 2 ≤ i ∧ (gt l (i - 2)).1 = 9
theorem gd0_nil : Gd0 [] := ⟨rfl, fun i h => by simp at h, fun i h => by simp at h, fun i h => by simp at h⟩
theorem gd0_app {a b : List In} (ha : Gd0 a) (hb : Gd0 b) : Gd0 (a ++ b) := by
  refine ⟨allW_app ha.may hb.may, fun i hi => ?_, fun i hi h => ?_, fun i hi h => ?_⟩
  · rw [List.length_append] at hi
    by_cases hc : i < a.length
    · rw [gt_left hc]; exact ha.op i hc
    · rw [gt_right (by omega)]; exact hb.op _ (by omega)
  · rw [List.length_append] at hi ⊢
    by_cases hc : i < a.length
    · rw [gt_left hc] at h ⊢
      obtain ⟨h1, h2, h3, h4⟩ := ha.lock i hc h
      rw [gt_left h1, gt_left (by omega)]
      exact ⟨by omega, h2, h3, h4⟩
    · rw [gt_right (by omega)] at h ⊢
      obtain ⟨h1, h2, h3, h4⟩ := hb.lock _ (by omega) h
      rw [gt_right (by omega), gt_right (by omega), show i + 2 - a.length = i - a.length + 2 by omega, show i + 1 - a.length = i - a.length + 1 by omega]
      exact ⟨by omega, h2, h3, h4⟩
  · rw [List.length_append] at hi
    by_cases hc : i < a.length
    · rw [gt_left hc] at h
      obtain ⟨h1, h2⟩ := ha.un i hc h
      rw [gt_left (by omega)]
      exact ⟨h1, h2⟩
    · rw [gt_right (by omega)] at h
      obtain ⟨h1, h2⟩ := hb.un _ (by omega) h
      rw [gt_right (by omega), show i - 2 - a.length = i - a.length - 2 by omega]
      exact ⟨by omega, h2⟩
theorem gd0_plain {x : In} (h : plB x = true) : Gd0 [x] := by
  have ho := pl_op h
  refine ⟨by simp [mw_pl h], fun i hi => ?_, fun i hi h9 => ?_, fun i hi h9 => ?_⟩
  all_goals
    obtain rfl : i = 0 := by simp at hi; omega
    rw [gt_zero] at *
  · exact .inl ho
  · omega
  · omega
theorem gd0_pair {s : Int} {x : In} (h : plB x = true) (h0 : 0 ≤ s) (h3 : s ≤ 3) : Gd0 [(9, s, 0, 0), x, (10, s, 0, 0)] := by
  have ho := pl_op h
  have e1 : gt [(9, s, 0, 0), x, (10, s, 0, 0)] 0 = (9, s, 0, 0) := rfl
  have e2 : gt [(9, s, 0, 0), x, (10, s, 0, 0)] 1 = x := rfl
  have e3 : gt [(9, s, 0, 0), x, (10, s, 0, 0)] 2 = (10, s, 0, 0) := rfl
  have m1 : mayW (9, s, 0, 0) = true := mw_of (by unfold mayP; simp; omega) (by simp)
  have m3 : mayW (10, s, 0, 0) = true := mw_of (by unfold mayP; simp; omega) (by simp)
  refine ⟨by simp [mw_pl h, m1, m3], fun i hi => ?_, fun i hi h9 => ?_, fun i hi h9 => ?_⟩
  all_goals
    simp at hi
    have : i = 0 ∨ i = 1 ∨ i = 2 := by omega
    rcases this with rfl | rfl | rfl
  · rw [e1]; simp
  · rw [e2]; exact .inl ho
  · rw [e3]; simp
  · rw [e1, e3, e2]; simp; exact ho
  · rw [e2] at h9; omega
  · rw [e3] at h9; simp at h9
  · rw [e1] at h9; simp at h9
  · rw [e2] at h9; omega
  · show 2 ≤ 2 ∧ (gt _ 0).1 = 9; rw [e1]; simp

/-- .. with bodies and reaches of such, and Marks -/
structure Gd (l : List In) : Prop where
  may : l.all mayW = true
  fin : ∀ i, i < l.length → (gt l i).1 ≠ 0
  area : ∀ i, i < l.length → i + rch (gt l i) < l.length
  flat : ∀ i j, inA l i j = true → rch (gt l j) = 0
  lock : ∀ i, i < l.length → (gt l i).1 = 9 → i + 2 < l.length ∧ (gt l (i + 2)).1 = 10 ∧ (gt l (i + 2)).2.1 = (gt l i).2.1 ∧ 1 ≤ (gt l (i + 1)).1 ∧ (gt l (i + 1)).1 ≤ 6
  un : ∀ i, i < l.length → (gt l i).1 = 10 → 2 ≤ i ∧ (gt l (i - 2)).1 = 9
  scope : ∀ f i, i < l.length → (gt l i).1 = 9 → inA l f i = inA l f (i + 2)
  mark : ∀ f i, i < l.length → (gt l i).1 = 11 → inA l f i = false
theorem inA_left {a b : List In} {f i : Nat} (h : f < a.length) : inA (a ++ b) f i = inA a f i := by unfold inA; rw [gt_left h]
theorem inA_right {a b : List In} {f i : Nat} (h : a.length ≤ f) : inA (a ++ b) f i = inA b (f - a.length) (i - a.length) := by
  rw [Bool.eq_iff_iff, inA_iff, inA_iff, gt_right h]
  omega
theorem inA_none {l : List In} {f i : Nat} (h : rch (gt l f) = 0) : inA l f i = false := by rw [inA_no]; omega
theorem gd_nil : Gd [] := ⟨rfl, fun i h => by simp at h, fun i h => by simp at h, fun i j h => rch_out (by simp), fun i h => by simp at h, fun i h => by simp at h, fun f i h => by simp at h, fun f i h => by simp at h⟩
theorem gd_app {a b : List In} (ha : Gd a) (hb : Gd b) : Gd (a ++ b) := by
  refine ⟨allW_app ha.may hb.may, fun i hi => ?_, fun i hi => ?_, fun i j h => ?_, fun i hi h => ?_, fun i hi h => ?_, fun f i hi h => ?_, fun f i hi h => ?_⟩
  · rw [List.length_append] at hi
    by_cases hc : i < a.length
    · rw [gt_left hc]; exact ha.fin i hc
    · rw [gt_right (by omega)]; exact hb.fin _ (by omega)
  · rw [List.length_append] at hi ⊢
    by_cases hc : i < a.length
    · rw [gt_left hc]; have := ha.area i hc; omega
    · rw [gt_right (by omega)]; have := hb.area _ (show i - a.length < b.length by omega); omega
  · by_cases hc : i < a.length
    · rw [inA_left hc] at h
      have := inA_iff.1 h
      have := ha.area i hc
      rw [gt_left (by omega)]
      exact ha.flat i j h
    · rw [inA_right (by omega)] at h
      have := inA_iff.1 h
      rw [gt_right (by omega)]
      exact hb.flat _ _ h
  · rw [List.length_append] at hi ⊢
    by_cases hc : i < a.length
    · rw [gt_left hc] at h ⊢
      obtain ⟨h1, h2, h3, h4⟩ := ha.lock i hc h
      rw [gt_left h1, gt_left (by omega)]
      exact ⟨by omega, h2, h3, h4⟩
    · rw [gt_right (by omega)] at h ⊢
      obtain ⟨h1, h2, h3, h4⟩ := hb.lock _ (by omega) h
      rw [gt_right (by omega), gt_right (by omega), show i + 2 - a.length = i - a.length + 2 by omega, show i + 1 - a.length = i - a.length + 1 by omega]
      exact ⟨by omega, h2, h3, h4⟩
  · rw [List.length_append] at hi
    by_cases hc : i < a.length
    · rw [gt_left hc] at h
      obtain ⟨h1, h2⟩ := ha.un i hc h
      rw [gt_left (by omega)]
      exact ⟨h1, h2⟩
    · rw [gt_right (by omega)] at h
      obtain ⟨h1, h2⟩ := hb.un _ (by omega) h
      rw [gt_right (by omega), show i - 2 - a.length = i - a.length - 2 by omega]
      exact ⟨by omega, h2⟩
  · rw [List.length_append] at hi
    by_cases hc : i < a.length
    · rw [gt_left hc] at h
      have hl := ha.lock i hc h
      by_cases hf : f < a.length
      · rw [inA_left hf, inA_left hf]; exact ha.scope f i hc h
      · have e1 : inA (a ++ b) f i = false := inA_no.2 (by omega)
        have e2 : inA (a ++ b) f (i + 2) = false := inA_no.2 (by omega)
        rw [e1, e2]
    · rw [gt_right (by omega)] at h
      by_cases hf : f < a.length
      · have := ha.area f hf
        have e1 : inA (a ++ b) f i = false := inA_no.2 (by rw [gt_left hf]; omega)
        have e2 : inA (a ++ b) f (i + 2) = false := inA_no.2 (by rw [gt_left hf]; omega)
        rw [e1, e2]
      · rw [inA_right (by omega), inA_right (by omega), show i + 2 - a.length = i - a.length + 2 by omega]
        exact hb.scope _ _ (by omega) h
  · rw [List.length_append] at hi
    by_cases hc : i < a.length
    · rw [gt_left hc] at h
      by_cases hf : f < a.length
      · rw [inA_left hf]; exact ha.mark f i hc h
      · exact inA_no.2 (by omega)
    · rw [gt_right (by omega)] at h
      by_cases hf : f < a.length
      · have := ha.area f hf
        exact inA_no.2 (by rw [gt_left hf]; omega)
      · rw [inA_right (by omega)]; exact hb.mark _ _ (by omega) h
theorem gd0_rch {l : List In} (h : Gd0 l) (i : Nat) : rch (gt l i) = 0 := by
  by_cases hi : i < l.length
  · have := h.op i hi
    exact rch_op (by omega) (by omega)
  · exact rch_out (by omega)
theorem gd_of0 {l : List In} (h : Gd0 l) : Gd l := by
  refine ⟨h.may, fun i hi => by have := h.op i hi; omega, fun i hi => by rw [gd0_rch h]; omega, fun i j _ => gd0_rch h j, h.lock, h.un, fun f i _ _ => ?_, fun f i hi h' => by have := h.op i hi; omega⟩
  rw [inA_none (gd0_rch h f), inA_none (gd0_rch h f)]
theorem gd_mark : Gd [(11, 0, 0, 0)] := by
  have e : ∀ i, rch (gt [(11, 0, 0, 0)] i) = 0 := fun i => by
    by_cases hi : i < 1
    · obtain rfl : i = 0 := by omega
      rfl
    · exact rch_out (by simp; omega)
  refine ⟨by decide, fun i hi => ?_, fun i hi => by rw [e]; simpa using hi, fun i j _ => e j, fun i hi h => ?_, fun i hi h => ?_, fun f i _ _ => by rw [inA_none (e f), inA_none (e f)], fun f i _ _ => inA_none (e f)⟩
  all_goals
    obtain rfl : i = 0 := by simp at hi; omega
  · decide
  · exact absurd h (by decide)
  · exact absurd h (by decide)
/-- a body or a reach -/
theorem gd_head {x : In} {b : List In} (hb : Gd0 b) (hx : mayW x = true) (ho : x.1 = 7 ∨ x.1 = 8) (hr : rch x = b.length) : Gd (x :: b) := by
  have er : ∀ i, rch (gt (x :: b) (i + 1)) = 0 := fun i => by rw [gt_cons]; exact gd0_rch hb i
  have e0 : rch (gt (x :: b) 0) = b.length := by rw [gt_zero, hr]
  have ein : ∀ f i, inA (x :: b) f i = true ↔ f = 0 ∧ 1 ≤ i ∧ i ≤ b.length := fun f i => by
    rw [inA_iff]
    cases f with
    | zero => rw [e0]; omega
    | succ f => rw [er]; omega
  refine ⟨by simp only [List.all_cons, hx, hb.may]; rfl, fun i hi => ?_, fun i hi => ?_, fun i j h => ?_, fun i hi h => ?_, fun i hi h => ?_, fun f i hi h => ?_, fun f i hi h => ?_⟩
  · cases i with
    | zero => rw [gt_zero]; omega
    | succ i => rw [gt_cons]; have := hb.op i (by simpa using hi); omega
  · cases i with
    | zero => rw [e0]; simp
    | succ i => rw [er]; exact hi
  · obtain ⟨_, h1, _⟩ := (ein i j).1 h
    cases j with
    | zero => omega
    | succ j => exact er j
  · cases i with
    | zero => rw [gt_zero] at h; omega
    | succ i =>
      rw [gt_cons] at h
      obtain ⟨h1, h2, h3, h4⟩ := hb.lock i (by simpa using hi) h
      rw [show i + 1 + 2 = (i + 2) + 1 by omega, show i + 1 + 1 = (i + 1) + 1 by omega, gt_cons, gt_cons, gt_cons]
      exact ⟨by simp; omega, h2, h3, h4⟩
  · cases i with
    | zero => rw [gt_zero] at h; omega
    | succ i =>
      rw [gt_cons] at h
      obtain ⟨h1, h2⟩ := hb.un i (by simpa using hi) h
      rw [show i + 1 - 2 = (i - 2) + 1 by omega, gt_cons]
      exact ⟨by omega, h2⟩
  · cases i with
    | zero => rw [gt_zero] at h; omega
    | succ i =>
      rw [gt_cons] at h
      obtain ⟨h1, _⟩ := hb.lock i (by simpa using hi) h
      rw [Bool.eq_iff_iff, ein, ein]
      omega
  · cases i with
    | zero => rw [gt_zero] at h; omega
    | succ i => rw [gt_cons] at h; have := hb.op i (by simpa using hi); omega
end Go.Proofs.Yteikdocpncdheaa
