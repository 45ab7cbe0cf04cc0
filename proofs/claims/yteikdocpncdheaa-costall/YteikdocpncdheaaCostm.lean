/-
  How often each instruction of a program is done, and how many ticks rows of them are: plain facts.
-/
import Derived.Test.YteikdocpncdheaaEnds
namespace Go.Proofs.Yteikdocpncdheaa

def inB (l : List In) (f i : Nat) : Bool := inA l f i && (gt l f).1 == 8
theorem inB_iff {l : List In} {f i : Nat} : inB l f i = true ↔ (f < i ∧ i ≤ f + rch (gt l f)) ∧ (gt l f).1 = 8 := by simp [inB, inA_iff]
theorem inB_no {l : List In} {f i : Nat} : inB l f i = false ↔ ¬ ((f < i ∧ i ≤ f + rch (gt l f)) ∧ (gt l f).1 = 8) := by rw [← inB_iff]; simp
def nOf (l : List In) (f : Nat) : Nat := (gt l f).2.2.2.toNat
theorem nOf_bd {l : List In} (h : l.all mayB = true) {f : Nat} (h8 : (gt l f).1 = 8) : 1 ≤ nOf l f ∧ nOf l f ≤ 20 ∧ (nOf l f : Int) = (gt l f).2.2.2 := by
  have := may_iff.1 (all_gt h f)
  unfold mayP at this
  unfold nOf
  omega
/-- how often i is done, by the bodies from lo up to k -/
def wtA (l : List In) (lo i : Nat) : Nat → Nat
  | 0 => 1
  | k + 1 => if (decide (lo ≤ k) && inB l k i) = true then wtA l lo i k * nOf l k else wtA l lo i k
def wt (l : List In) (lo i : Nat) : Nat := wtA l lo i i
theorem wtA_yes {l : List In} {lo i k : Nat} (h1 : lo ≤ k) (h2 : inB l k i = true) : wtA l lo i (k + 1) = wtA l lo i k * nOf l k := by
  rw [wtA, if_pos (by simp [h1, h2])]
theorem wtA_no {l : List In} {lo i k : Nat} (h2 : inB l k i = false) : wtA l lo i (k + 1) = wtA l lo i k := by
  rw [wtA, if_neg (by simp [h2])]
theorem wtA_low {l : List In} {lo i : Nat} : ∀ {k : Nat}, k ≤ lo → wtA l lo i k = 1
  | 0, _ => rfl
  | k + 1, h => by
    rw [wtA, if_neg (by simp; omega)]
    exact wtA_low (by omega)
theorem wtA_one {l : List In} {lo i : Nat} : ∀ {k : Nat}, (∀ f, lo ≤ f → f < k → inB l f i = false) → wtA l lo i k = 1
  | 0, _ => rfl
  | k + 1, h => by
    by_cases hl : lo ≤ k
    · rw [wtA_no (h k hl (by omega))]
      exact wtA_one fun f h1 h2 => h f h1 (by omega)
    · exact wtA_low (by omega)
theorem wtA_congr {l : List In} {lo i j : Nat} : ∀ {k : Nat}, (∀ f, lo ≤ f → f < k → inB l f i = inB l f j) → wtA l lo i k = wtA l lo j k
  | 0, _ => rfl
  | k + 1, h => by
    have ih := wtA_congr (k := k) fun f h1 h2 => h f h1 (by omega)
    by_cases hl : lo ≤ k
    · have := h k hl (by omega)
      simp only [wtA, this, ih]
    · rw [wtA_low (by omega), wtA_low (by omega)]
theorem wtA_split {l : List In} {lo i m : Nat} (hm : lo ≤ m) : ∀ {k : Nat}, m ≤ k → wtA l lo i k = wtA l lo i m * wtA l m i k
  | 0, h => by
    obtain rfl : m = 0 := by omega
    simp [wtA]
  | k + 1, h => by
    by_cases e : m = k + 1
    · subst e
      rw [wtA_low (lo := k + 1) (Nat.le_refl _), Nat.mul_one]
    · have ih := wtA_split (l := l) (i := i) hm (k := k) (by omega)
      cases hb : inB l k i with
      | true => rw [wtA_yes (by omega) hb, wtA_yes (by omega) hb, ih, Nat.mul_assoc]
      | false => rw [wtA_no hb, wtA_no hb, ih]
theorem wtA_pos {l : List In} (h : l.all mayB = true) {lo i : Nat} : ∀ {k : Nat}, 1 ≤ wtA l lo i k
  | 0 => Nat.le_refl _
  | k + 1 => by
    have ih := wtA_pos h (lo := lo) (i := i) (k := k)
    rw [wtA]
    split
    · rename_i hc
      simp only [Bool.and_eq_true, decide_eq_true_eq] at hc
      have := (nOf_bd h (inB_iff.1 hc.2).2).1
      exact Nat.mul_pos ih this
    · exact ih
theorem wt_pos {l : List In} (h : l.all mayB = true) {lo i : Nat} : 1 ≤ wt l lo i := wtA_pos h
theorem wt_low {l : List In} {i : Nat} : wt l i i = 1 := wtA_low (Nat.le_refl _)
theorem wt_le {l : List In} (h : l.all mayB = true) {lo i : Nat} (hl : lo ≤ i) : wt l lo i ≤ wt l 0 i := by
  have := wtA_split (l := l) (lo := 0) (i := i) (m := lo) (by omega) hl
  have h1 := wtA_pos h (lo := 0) (i := i) (k := lo)
  unfold wt
  rw [this]
  exact Nat.le_mul_of_pos_left _ h1
theorem wtA_bd {l : List In} (h : l.all mayB = true) {i : Nat} : ∀ {k : Nat}, wtA l 0 i k ≤ 20 ^ cntN k (fun f => inA l f i && (gt l f).1 == 8)
  | 0 => Nat.le_refl _
  | k + 1 => by
    have ih := wtA_bd h (i := i) (k := k)
    cases hb : inB l k i with
    | true =>
      rw [wtA_yes (by omega) hb, cntN_yes (p := fun f => inA l f i && (gt l f).1 == 8) hb, Nat.pow_succ]
      exact Nat.mul_le_mul ih (nOf_bd h (inB_iff.1 hb).2).2.1
    | false => rw [wtA_no hb, cntN_no (p := fun f => inA l f i && (gt l f).1 == 8) hb]; exact ih
/-- the ticks of the instructions from a up to b -/
def smW (l : List In) (lo a : Nat) : Nat → Nat
  | 0 => 0
  | k + 1 => smW l lo a k + wt l lo (a + k)
def Sm (l : List In) (lo a b : Nat) : Nat := smW l lo a (b - a)
theorem Sm_nil (l : List In) (lo a : Nat) : Sm l lo a a = 0 := by unfold Sm; rw [Nat.sub_self]; rfl
theorem Sm_succ {l : List In} {lo a b : Nat} (h : a ≤ b) : Sm l lo a (b + 1) = Sm l lo a b + wt l lo b := by
  unfold Sm
  rw [show b + 1 - a = (b - a) + 1 by omega, smW, show a + (b - a) = b by omega]
theorem Sm_split {l : List In} {lo a m : Nat} (h1 : a ≤ m) : ∀ {b : Nat}, m ≤ b → Sm l lo a b = Sm l lo a m + Sm l lo m b
  | 0, h => by
    obtain rfl : m = 0 := by omega
    rw [Sm_nil]; rfl
  | b + 1, h => by
    by_cases e : m = b + 1
    · subst e; rw [Sm_nil]; rfl
    · rw [Sm_succ (by omega), Sm_succ (by omega), Sm_split h1 (b := b) (by omega)]; omega
theorem Sm_one (l : List In) (lo a : Nat) : Sm l lo a (a + 1) = wt l lo a := by rw [Sm_succ (Nat.le_refl _), Sm_nil]; omega
theorem Sm_first {l : List In} {lo a b : Nat} (h : a < b) : Sm l lo a b = wt l lo a + Sm l lo (a + 1) b := by
  rw [Sm_split (show a ≤ a + 1 by omega) (by omega), Sm_one]
theorem Sm_mul {l : List In} {lo lo' a N : Nat} : ∀ {b : Nat}, a ≤ b → (∀ i, a ≤ i → i < b → wt l lo i = N * wt l lo' i) → Sm l lo a b = N * Sm l lo' a b
  | 0, h, _ => by
    obtain rfl : a = 0 := by omega
    rw [Sm_nil, Sm_nil]; rfl
  | b + 1, h, hw => by
    by_cases e : a = b + 1
    · subst e; rw [Sm_nil, Sm_nil]; rfl
    · rw [Sm_succ (by omega), Sm_succ (by omega), Sm_mul (b := b) (by omega) fun i h1 h2 => hw i h1 (by omega), hw b (by omega) (by omega), Nat.mul_add]
theorem Sm_congr {l : List In} {lo lo' a b : Nat} (h : a ≤ b) (hw : ∀ i, a ≤ i → i < b → wt l lo i = wt l lo' i) : Sm l lo a b = Sm l lo' a b := by
  have := Sm_mul (l := l) (lo := lo) (lo' := lo') (N := 1) h (fun i h1 h2 => by rw [Nat.one_mul]; exact hw i h1 h2)
  rwa [Nat.one_mul] at this
theorem Sm_bd {l : List In} {lo a : Nat} : ∀ {b : Nat}, a ≤ b → (∀ i, a ≤ i → i < b → wt l lo i ≤ 400) → Sm l lo a b ≤ 400 * (b - a)
  | 0, h, _ => by
    obtain rfl : a = 0 := by omega
    rw [Sm_nil]; omega
  | b + 1, h, hw => by
    by_cases e : a = b + 1
    · subst e; rw [Sm_nil]; omega
    · have := Sm_bd (b := b) (by omega) fun i h1 h2 => hw i h1 (by omega)
      have := hw b (by omega) (by omega)
      rw [Sm_succ (by omega)]
      omega
/-- how long a row is -/
def tk (l : List In) : Nat := Sm l 0 0 l.length
/-- a part of it -/
def sub (l : List In) (a n : Nat) : List In := (l.drop a).take n
theorem sub_len {l : List In} {a n : Nat} (h : a + n ≤ l.length) : (sub l a n).length = n := by simp [sub]; omega
theorem gt_of_sub {l : List In} {a n j : Nat} (h : j < n) : gt (sub l a n) j = gt l (a + j) := gt_sub h
theorem inB_sub {l : List In} {a n f j : Nat} (hf : f < n) : inB (sub l a n) f j = inB l (a + f) (a + j) := by
  rw [Bool.eq_iff_iff, inB_iff, inB_iff, gt_of_sub hf]
  omega
theorem wtA_sub {l : List In} {a n j : Nat} : ∀ {k : Nat}, k ≤ n → wtA (sub l a n) 0 j k = wtA l a (a + j) (a + k)
  | 0, _ => (wtA_low (Nat.le_refl _)).symm
  | k + 1, h => by
    have ih := wtA_sub (l := l) (a := a) (n := n) (j := j) (k := k) (by omega)
    have hs := inB_sub (l := l) (a := a) (n := n) (f := k) (j := j) (by omega)
    rw [show a + (k + 1) = a + k + 1 by omega]
    cases hb : inB l (a + k) (a + j) with
    | true =>
      rw [hb] at hs
      rw [wtA_yes (by omega) hs, wtA_yes (by omega) hb, ih]
      unfold nOf
      rw [gt_of_sub (by omega)]
    | false =>
      rw [hb] at hs
      rw [wtA_no hs, wtA_no hb, ih]
theorem wt_sub {l : List In} {a n j : Nat} (h : j ≤ n) : wt (sub l a n) 0 j = wt l a (a + j) := wtA_sub h
theorem Sm_sub {l : List In} {a n : Nat} : ∀ {k : Nat}, k ≤ n → Sm (sub l a n) 0 0 k = Sm l a a (a + k)
  | 0, _ => by rw [Sm_nil, Nat.add_zero, Sm_nil]
  | k + 1, h => by rw [Sm_succ (by omega), show a + (k + 1) = a + k + 1 by omega, Sm_succ (by omega), Sm_sub (k := k) (by omega), wt_sub (by omega)]
theorem tk_sub {l : List In} {a n : Nat} (h : a + n ≤ l.length) : tk (sub l a n) = Sm l a a (a + n) := by
  unfold tk
  rw [sub_len h, Sm_sub (Nat.le_refl _)]
/-- rows whose bodies end in them -/
structure Tk (l : List In) : Prop where
  may : l.all mayB = true
  len : l.length ≤ 24
  cl : ∀ f, f < l.length → (gt l f).1 = 8 → f + rch (gt l f) < l.length ∧ ∀ g, f < g → g ≤ f + rch (gt l f) → (gt l g).1 = 8 → g + rch (gt l g) ≤ f + rch (gt l f)
  bd : ∀ i, i < l.length → wt l 0 i ≤ 400
theorem Tk.tk_le {l : List In} (h : Tk l) : tk l ≤ 9600 := by
  have h1 := Sm_bd (l := l) (lo := 0) (a := 0) (b := l.length) (Nat.zero_le _) fun i _ hi => h.bd i hi
  have := h.len
  unfold tk
  omega
theorem Tk.sm_le {l : List In} (h : Tk l) {k : Nat} (hk : k ≤ l.length) : Sm l 0 0 k ≤ 9600 := by
  have h1 := Sm_bd (l := l) (lo := 0) (a := 0) (b := k) (Nat.zero_le _) fun i _ hi => h.bd i (by omega)
  have := h.len
  omega
theorem all_subL {l : List In} (h : l.all mayB = true) (a n : Nat) : (sub l a n).all mayB = true := by
  rw [List.all_eq_true] at h ⊢
  exact fun x hx => h x (List.drop_subset _ _ (List.take_subset _ _ hx))
theorem Tk.sub {l : List In} (h : Tk l) {a n : Nat} (ha : a + n ≤ l.length) (hc : ∀ f, a ≤ f → f < a + n → (gt l f).1 = 8 → f + rch (gt l f) < a + n) : Tk (sub l a n) := by
  refine ⟨all_subL h.may a n, ?_, fun f hf h8 => ?_, fun i hi => ?_⟩
  · rw [sub_len ha]; have := h.len; omega
  · rw [sub_len ha] at hf ⊢
    rw [gt_of_sub hf] at h8 ⊢
    have h1 := hc (a + f) (by omega) (by omega) h8
    have h2 := (h.cl (a + f) (by omega) h8).2
    refine ⟨by omega, fun g hg1 hg2 hg8 => ?_⟩
    rw [gt_of_sub (by omega)] at hg8 ⊢
    have := h2 (a + g) (by omega) (by omega) hg8
    omega
  · rw [sub_len ha] at hi
    rw [wt_sub (by omega)]
    have := wt_le h.may (lo := a) (i := a + i) (by omega)
    have := h.bd (a + i) (by omega)
    omega
/-- in no body -/
def Top (l : List In) (k : Nat) : Prop := ∀ f, f < k → inB l f k = false
theorem top_zero (l : List In) : Top l 0 := fun f h => by omega
theorem top_in {l : List In} {k f i : Nat} (ht : Top l k) (h1 : f < k) (h2 : k ≤ i) : inB l f i = false := by
  have := inB_no.1 (ht f h1)
  rw [inB_no]
  omega
theorem top_wt {l : List In} {k : Nat} (ht : Top l k) : wt l 0 k = 1 := wtA_one fun f _ h => ht f h
theorem top_next {l : List In} {k : Nat} (ht : Top l k) (h8 : (gt l k).1 ≠ 8) : Top l (k + 1) := fun f hf => by
  by_cases e : f = k
  · subst e; rw [inB_no]; exact fun h => h8 h.2
  · exact top_in ht (by omega) (by omega)
theorem top_rep {l : List In} (hT : Tk l) {k : Nat} (hk : k < l.length) (ht : Top l k) (h8 : (gt l k).1 = 8) : Top l (k + rch (gt l k) + 1) := fun f hf => by
  by_cases e : f < k
  · exact top_in ht e (by omega)
  · rw [inB_no]
    rintro ⟨⟨h1, h2⟩, h3⟩
    by_cases e2 : f = k
    · subst e2; omega
    · have := (hT.cl k hk h8).2 f (by omega) (by omega) h3
      omega
theorem sm_next {l : List In} {k : Nat} (ht : Top l k) : Sm l 0 0 (k + 1) = Sm l 0 0 k + 1 := by rw [Sm_succ (by omega), top_wt ht]
theorem sm_rep {l : List In} (hT : Tk l) {k : Nat} (hk : k < l.length) (ht : Top l k) (h8 : (gt l k).1 = 8) :
    Tk (sub l (k + 1) (rch (gt l k))) ∧ Sm l 0 0 (k + rch (gt l k) + 1) = Sm l 0 0 k + 1 + nOf l k * tk (sub l (k + 1) (rch (gt l k))) := by
  have hc := hT.cl k hk h8
  refine ⟨hT.sub (by omega) (fun f h1 h2 h3 => by have := hc.2 f (by omega) (by omega) h3; omega), ?_⟩
  rw [tk_sub (by omega), Sm_split (show 0 ≤ k + 1 by omega) (show k + 1 ≤ k + rch (gt l k) + 1 by omega), sm_next ht, show k + 1 + rch (gt l k) = k + rch (gt l k) + 1 by omega]
  congr 1
  refine Sm_mul (by omega) fun i h1 h2 => ?_
  have hs := wtA_split (l := l) (lo := 0) (i := i) (m := k + 1) (by omega) (k := i) (by omega)
  unfold wt
  rw [hs, wtA_yes (by omega) (inB_iff.2 ⟨⟨by omega, by omega⟩, h8⟩), wtA_one fun f _ hf => top_in ht hf (by omega), Nat.one_mul]
theorem tk_of {l : List In} (h : Prg l) : Tk l := by
  refine ⟨h.all, h.le.2, fun f hf h8 => ?_, fun i hi => ?_⟩
  · have := h.nest.1 f (is_ar (.inl h8))
    refine ⟨by omega, fun g h1 h2 h3 => h.nest.2 f (is_ar (.inl h8)) g (is_ar (.inl h3)) (inA_iff.2 ⟨h1, h2⟩)⟩
  · have h1 := wtA_bd h.all (i := i) (k := i)
    have h2 := h.shal i hi
    have h3 := cntN_mono (p := fun f => inA l f i && (gt l f).1 == 8) (show i ≤ 24 by have := h.le; omega)
    unfold bodN at h2
    have h4 : 20 ^ cntN i (fun f => inA l f i && (gt l f).1 == 8) ≤ 20 ^ 2 := Nat.pow_le_pow_right (by omega) (by omega)
    unfold wt
    omega
end Go.Proofs.Yteikdocpncdheaa
