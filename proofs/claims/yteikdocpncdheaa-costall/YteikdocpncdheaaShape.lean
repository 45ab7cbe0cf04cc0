/-
  Which programs may be, as plain functions of rows of instructions; nothing of the program.
-/
import Derived.Test.YteikdocpncdheaaMath
namespace Go.Proofs.Yteikdocpncdheaa

def z4 : In := (0, 0, 0, 0)
def gt (l : List In) (i : Nat) : In := l.getD i z4
theorem gt_eq {l : List In} {i : Nat} (h : i < l.length) : gt l i = l[i] := by
  unfold gt
  rw [List.getD_eq_getElem?_getD, List.getElem?_eq_getElem h]
  rfl
theorem gt_out {l : List In} {i : Nat} (h : l.length ≤ i) : gt l i = z4 := by
  unfold gt
  rw [List.getD_eq_getElem?_getD, List.getElem?_eq_none h]
  rfl
/-- how far a body or a reach goes -/
def reachI (x : In) : Int := if x.1 = 8 then x.2.2.1 else if x.1 = 7 then x.2.2.2 else 0
def rch (x : In) : Nat := (reachI x).toNat
theorem reach_bd {x : In} (h : mayB x = true) : 0 ≤ reachI x ∧ reachI x ≤ 24 := by
  have h := may_iff.1 h
  unfold mayP at h
  unfold reachI
  split
  · omega
  · split <;> omega
theorem rch_eq {x : In} (h : mayB x = true) : (rch x : Int) = reachI x := by
  have := reach_bd h
  unfold rch
  omega
theorem all_get {l : List In} (h : l.all mayB = true) {i : Nat} (hi : i < l.length) : mayB l[i] = true := List.all_eq_true.1 h _ (List.getElem_mem hi)
theorem all_gt {l : List In} (h : l.all mayB = true) (i : Nat) : mayB (gt l i) = true := by
  by_cases hi : i < l.length
  · rw [gt_eq hi]; exact all_get h hi
  · rw [gt_out (by omega)]; decide

def allN (n : Nat) (p : Nat → Bool) : Bool := (List.range n).all p
theorem allN_iff {n : Nat} {p : Nat → Bool} : allN n p = true ↔ ∀ i, i < n → p i = true := by simp [allN]
theorem allN_no {n : Nat} {p : Nat → Bool} (i : Nat) (hi : i < n) (h : p i = false) : allN n p = false := by
  rw [Bool.eq_false_iff]
  intro ha
  rw [allN_iff.1 ha i hi] at h
  cases h
def anyN (n : Nat) (p : Nat → Bool) : Bool := (List.range n).any p
theorem anyN_iff {n : Nat} {p : Nat → Bool} : anyN n p = true ↔ ∃ i, i < n ∧ p i = true := by simp [anyN]
theorem anyN_no {n : Nat} {p : Nat → Bool} : anyN n p = false ↔ ∀ i, i < n → p i = false := by
  simp [anyN]
def cntN (n : Nat) (p : Nat → Bool) : Nat := ((List.range n).filter p).length
theorem cntN_zero (p : Nat → Bool) : cntN 0 p = 0 := rfl
theorem cntN_yes {n : Nat} {p : Nat → Bool} (h : p n = true) : cntN (n + 1) p = cntN n p + 1 := by simp [cntN, List.range_succ, List.filter_append, h]
theorem cntN_no {n : Nat} {p : Nat → Bool} (h : p n = false) : cntN (n + 1) p = cntN n p := by simp [cntN, List.range_succ, List.filter_append, h]
theorem cntN_le (n : Nat) (p : Nat → Bool) : cntN n p ≤ n := by have := List.length_filter_le p (List.range n); simpa [cntN] using this

/-- instruction i stands in the body or reach of f -/
def inA (l : List In) (f i : Nat) : Bool := decide (f < i) && decide (i ≤ f + rch (gt l f))
theorem inA_iff {l : List In} {f i : Nat} : inA l f i = true ↔ f < i ∧ i ≤ f + rch (gt l f) := by simp [inA]
theorem inA_no {l : List In} {f i : Nat} : inA l f i = false ↔ ¬ (f < i ∧ i ≤ f + rch (gt l f)) := by rw [← inA_iff]; simp
def scA (l : List In) (a k : Nat) : List Int := (List.range 24).map fun f => if decide (f < k) && inA l f a then (f : Int) + 1 else 0
theorem scA_len (l : List In) (a k : Nat) : (scA l a k).length = 24 := by simp [scA]
theorem scA_get {l : List In} {a k : Nat} {f : Nat} (hf : f < 24) : (scA l a k)[f]'(by rw [scA_len]; exact hf) = if decide (f < k) && inA l f a then (f : Int) + 1 else 0 := by simp [scA]
theorem scA_zero (l : List In) (a : Nat) : scA l a 0 = List.replicate 24 0 := by
  apply List.ext_getElem (by simp [scA])
  intro i h1 h2
  rw [scA_get (by simpa using h2), List.getElem_replicate]
  simp
theorem scA_yes {l : List In} {a k : Nat} (h : inA l k a = true) : scA l a (k + 1) = (scA l a k).set k ((k : Int) + 1) := by
  apply List.ext_getElem (by simp [scA])
  intro i h1 h2
  rw [scA_len] at h1
  rw [scA_get h1, List.getElem_set, scA_get h1]
  by_cases e : k = i
  · subst e; simp [h]
  · have : (i < k + 1) = (i < k) := by apply propext; omega
    simp [e, this]
theorem scA_no {l : List In} {a k : Nat} (h : inA l k a = false) : scA l a (k + 1) = scA l a k := by
  unfold scA
  congr 1
  funext f
  by_cases e : f = k
  · subst e; simp [h]
  · have : (f < k + 1) = (f < k) := by apply propext; omega
    simp [this]
def scL (l : List In) (a : Nat) : List Int := scA l a a
theorem scL_len (l : List In) (a : Nat) : (scL l a).length = 24 := scA_len l a a
theorem scL_get {l : List In} {a f : Nat} (hf : f < 24) : (scL l a)[f]'(by rw [scL_len]; exact hf) = if inA l f a then (f : Int) + 1 else 0 := by
  unfold scL
  rw [scA_get hf]
  by_cases h : inA l f a = true
  · have := (inA_iff.1 h).1
    simp [h, this]
  · simp [h]
theorem scL_eq {l : List In} {a b : Nat} : scL l a = scL l b ↔ ∀ f, f < 24 → inA l f a = inA l f b := by
  constructor
  · intro h f hf
    have h1 := scL_get (l := l) (a := a) hf
    have h2 := scL_get (l := l) (a := b) hf
    have : (scL l a)[f]'(by rw [scL_len]; exact hf) = (scL l b)[f]'(by rw [scL_len]; exact hf) := by simp only [h]
    rw [h1, h2] at this
    cases ha : inA l f a <;> cases hb : inA l f b <;> simp [ha, hb] at this ⊢ <;> omega
  · intro h
    apply List.ext_getElem (by rw [scL_len, scL_len])
    intro i h1 h2
    rw [scL_len] at h1
    rw [scL_get h1, scL_get h1, h i h1]
theorem scL_zero {l : List In} {a : Nat} : scL l a = List.replicate 24 0 ↔ ∀ f, f < 24 → inA l f a = false := by
  constructor
  · intro h f hf
    have h1 := scL_get (l := l) (a := a) hf
    simp only [h, List.getElem_replicate] at h1
    cases ha : inA l f a <;> simp [ha] at h1 ⊢
    omega
  · intro h
    apply List.ext_getElem (by rw [scL_len, List.length_replicate])
    intro i h1 h2
    rw [scL_len] at h1
    rw [scL_get h1, h i h1, List.getElem_replicate]
    simp
/-- how many bodies there are around -/
def bodN (l : List In) (a k : Nat) : Nat := cntN k fun f => inA l f a && (gt l f).1 == 8

def closB (l : List In) : Bool := allN l.length fun i => decide ((i : Int) + reachI (gt l i) < l.length)
def rowB (l : List In) : Bool := decide (1 ≤ l.length) && decide (l.length ≤ 24) && allN l.length fun i => mayB (gt l i) && ((gt l i).1 == 0) == decide (i + 1 = l.length)
def ahd (l : List In) : List In := l.take (l.length - 1)
def nestB (l : List In) : Bool := closB (ahd l) && allN (l.length - 1) fun i => closB (((ahd l).drop (i + 1)).take (rch (gt l i)))
def shalB (l : List In) : Bool := allN l.length fun i => decide (bodN l i 24 ≤ 2)

/-- what is held, behind instruction i -/
def stepO (l : List In) (i : Nat) (o : List Nat) : Option (List Nat) :=
  if (gt l i).1 = 9 then
    if o.any (fun k => (gt l k).2.1 == (gt l i).2.1) || decide (2 ≤ o.length) then none else some (o ++ [i])
  else if (gt l i).1 = 10 then
    match o.getLast? with
    | none => none
    | some k => if (gt l k).2.1 = (gt l i).2.1 ∧ scL l k = scL l i then some o.dropLast else none
  else some o
def runO (l : List In) : Nat → Option (List Nat)
  | 0 => some []
  | n + 1 => (runO l n).bind (stepO l n)
def outO (l : List In) : Nat → List Int
  | 0 => List.replicate l.length 0
  | n + 1 => if (gt l n).1 = 10 then match (runO l n).bind (·.getLast?) with
      | some k => (outO l n).set k n
      | none => outO l n
    else outO l n
def okP (l : List In) : Bool := decide (runO l l.length = some [])
def pairL (l : List In) : List Int := outO l l.length
def betw (u : List Int) (i : Nat) : Bool := anyN u.length fun k => decide (k < i) && decide ((i : Int) < u.getD k 0)
def markB (l : List In) : Bool := allN l.length fun i => !((gt l i).1 == 11 && (decide (scL l i ≠ List.replicate 24 0) || betw (pairL l) i))
def okB (l : List In) : Bool := rowB l && nestB l && shalB l && okP l && markB l

theorem outO_len (l : List In) : ∀ n, (outO l n).length = l.length
  | 0 => by simp [outO]
  | n + 1 => by
    unfold outO
    split
    · split
      · rw [List.length_set, outO_len l n]
      · exact outO_len l n
    · exact outO_len l n
/-- what is held lies ahead, is a Lock, is of one semaphore each, in order, and is two at most -/
structure Held (l : List In) (n : Nat) (o : List Nat) : Prop where
  lt : ∀ k ∈ o, k < n
  op : ∀ k ∈ o, (gt l k).1 = 9
  le : o.length ≤ 2
  ne : ∀ a b, o = [a, b] → (gt l a).2.1 ≠ (gt l b).2.1 ∧ a < b
theorem runO_succ {l : List In} {n : Nat} {o' : List Nat} (h : runO l (n + 1) = some o') : ∃ o, runO l n = some o ∧ stepO l n o = some o' := by
  unfold runO at h
  cases hr : runO l n with
  | none => rw [hr] at h; cases h
  | some o => rw [hr] at h; exact ⟨o, rfl, h⟩
theorem runO_none {l : List In} {n : Nat} (h : runO l n = none) : ∀ m, n ≤ m → runO l m = none
  | 0, hm => by obtain rfl : n = 0 := by omega
                exact h
  | m + 1, hm => by
    by_cases e : n = m + 1
    · subst e; exact h
    · unfold runO; rw [runO_none h m (by omega)]; rfl
theorem runO_held (l : List In) : ∀ n o, runO l n = some o → Held l n o
  | 0, o, h => by
    simp [runO] at h
    subst h
    exact ⟨by simp, by simp, by simp, by simp⟩
  | n + 1, o', h => by
    obtain ⟨o, hr, hs⟩ := runO_succ h
    have ih := runO_held l n o hr
    unfold stepO at hs
    split at hs
    · rename_i h9
      split at hs
      · cases hs
      · rename_i hn
        simp only [Option.some.injEq] at hs
        subst hs
        simp only [Bool.or_eq_true, List.any_eq_true, beq_iff_eq, decide_eq_true_eq, not_or, not_exists, not_and] at hn
        obtain ⟨hn1, hn2⟩ := hn
        refine ⟨fun k hk => ?_, fun k hk => ?_, by simp; omega, fun a b e => ?_⟩
        · rcases List.mem_append.1 hk with hk | hk
          · have := ih.lt k hk; omega
          · simp at hk; omega
        · rcases List.mem_append.1 hk with hk | hk
          · exact ih.op k hk
          · simp at hk; subst hk; exact h9
        · cases o with
          | nil => simp at e
          | cons x r =>
            cases r with
            | nil =>
              simp at e
              obtain ⟨rfl, rfl⟩ := e
              exact ⟨hn1 x (by simp), ih.lt x (by simp)⟩
            | cons y r => simp at e
    · split at hs
      · split at hs
        · cases hs
        · split at hs
          · simp only [Option.some.injEq] at hs
            subst hs
            have hsub : ∀ k ∈ o.dropLast, k ∈ o := fun k hk => List.dropLast_subset o hk
            refine ⟨fun k hk => by have := ih.lt k (hsub k hk); omega, fun k hk => ih.op k (hsub k hk), by simp; have := ih.le; omega, fun a b e => ?_⟩
            have := congrArg List.length e
            have := ih.le
            simp at *
            omega
          · cases hs
      · simp only [Option.some.injEq] at hs
        subst hs
        exact ⟨fun k hk => by have := ih.lt k hk; omega, ih.op, ih.le, ih.ne⟩
end Go.Proofs.Yteikdocpncdheaa
