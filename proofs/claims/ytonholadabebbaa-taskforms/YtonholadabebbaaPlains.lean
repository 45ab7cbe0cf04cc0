/-
  Put together:
  Instructions as four numbers, which of them may be, their bytes, and what bytes tell: plain facts; nothing of the program.
  Which programs may be, as plain functions of rows of instructions; nothing of the program.
  Rows of plain instructions, pairs, bodies and reaches, one behind the other, and that they may be with an End behind them: plain facts.
  A row of plain instructions, pairs, bodies and reaches, with an End behind it, may be: plain facts.
  The pairs of a program that may be: one in the other or apart, of one semaphore each: plain facts.
  Bodies and reaches as a row, and which programs may be by them: plain facts.
  What is held at each place of a program that may be, and that what is held behind a body or a reach is what was held ahead of it: plain facts.
  A machine's way through a program that may be: where it is, what is repeated, and that it comes to its end: plain facts.
  How often each instruction of a program is done, and how many ticks rows of them are: plain facts.
  Pieces and spans of a program that may be, by the ticks of its instructions: plain facts.
  How often each instruction is done, by a row of areas: plain facts.
  One more plain instruction, or one more Mark, ahead of a program: plain facts.
-/
namespace Go.Proofs.Ytonholadabebbaa

/-- Op, A, B, N -/
abbrev In := Int × Int × Int × Int

def mayP (x : In) : Prop :=
  ((x.1 = 0 ∨ x.1 = 11) ∧ x.2.1 = 0 ∧ x.2.2.1 = 0 ∧ x.2.2.2 = 0) ∨
  (x.1 = 1 ∧ (0 ≤ x.2.1 ∧ x.2.1 ≤ 7) ∧ x.2.2.1 = 0 ∧ (-2147483648 ≤ x.2.2.2 ∧ x.2.2.2 ≤ 2147483647)) ∨
  ((x.1 = 2 ∨ x.1 = 3 ∨ x.1 = 4) ∧ (0 ≤ x.2.1 ∧ x.2.1 ≤ 7) ∧ (0 ≤ x.2.2.1 ∧ x.2.2.1 ≤ 7) ∧ x.2.2.2 = 0) ∨
  (x.1 = 5 ∧ (0 ≤ x.2.1 ∧ x.2.1 ≤ 7) ∧ x.2.2.1 = 0 ∧ (-63 ≤ x.2.2.2 ∧ x.2.2.2 ≤ 63)) ∨
  (x.1 = 6 ∧ (0 ≤ x.2.1 ∧ x.2.1 ≤ 7) ∧ x.2.2.1 = 0 ∧ (1 ≤ x.2.2.2 ∧ x.2.2.2 ≤ 64)) ∨
  (x.1 = 7 ∧ (0 ≤ x.2.1 ∧ x.2.1 ≤ 7) ∧ x.2.2.1 = 0 ∧ (1 ≤ x.2.2.2 ∧ x.2.2.2 ≤ 24)) ∨
  (x.1 = 8 ∧ x.2.1 = 0 ∧ (1 ≤ x.2.2.1 ∧ x.2.2.1 ≤ 24) ∧ (1 ≤ x.2.2.2 ∧ x.2.2.2 ≤ 20)) ∨
  ((x.1 = 9 ∨ x.1 = 10) ∧ (0 ≤ x.2.1 ∧ x.2.1 ≤ 3) ∧ x.2.2.1 = 0 ∧ x.2.2.2 = 0)
def decMay (x : In) : Decidable (mayP x) := by unfold mayP; exact inferInstance
def mayB (x : In) : Bool := @decide (mayP x) (decMay x)
theorem may_of {x : In} (h : mayP x) : mayB x = true := @decide_eq_true _ (decMay x) h
theorem may_not {x : In} (h : ¬ mayP x) : mayB x = false := @decide_eq_false _ (decMay x) h
theorem may_iff {x : In} : mayB x = true ↔ mayP x := @decide_eq_true_iff _ (decMay x)
theorem may_bd {x : In} (h : mayB x = true) : (0 ≤ x.1 ∧ x.1 ≤ 11) ∧ (0 ≤ x.2.1 ∧ x.2.1 ≤ 7) ∧ (0 ≤ x.2.2.1 ∧ x.2.2.1 ≤ 24) ∧ (-2147483648 ≤ x.2.2.2 ∧ x.2.2.2 ≤ 2147483647) := by
  have := may_iff.1 h
  unfold mayP at this
  omega

/-- the bytes of an instruction -/
def encB (x : In) : List Int := [x.1 % 256, x.2.1 % 256, x.2.2.1 % 256, x.2.2.2 % 4294967296 / 16777216, x.2.2.2 % 4294967296 / 65536 % 256, x.2.2.2 % 4294967296 / 256 % 256, x.2.2.2 % 256]
theorem encB_len (x : In) : (encB x).length = 7 := rfl
def allB : List In → List Int
  | [] => []
  | x :: r => encB x ++ allB r
theorem allB_len : ∀ l : List In, (allB l).length = 7 * l.length
  | [] => rfl
  | x :: r => by simp [allB, allB_len r, encB_len]; omega
theorem allB_snoc : ∀ (l : List In) (x : In), allB (l ++ [x]) = allB l ++ encB x
  | [], x => by simp [allB]
  | y :: r, x => by simp [allB, allB_snoc r x]
theorem allB_take (l : List In) (k : Nat) (h : k < l.length) : allB (l.take (k + 1)) = allB (l.take k) ++ encB l[k] := by
  rw [List.take_succ_eq_append_getElem h, allB_snoc]
def putOk (l : List In) : Bool := decide (l.length ≤ 24) && l.all mayB
/-- what Put tells -/
def putL (l : List In) : List Int := if putOk l then (l.length : Int) :: allB l else []
theorem putL_yes {l : List In} (h : l.length ≤ 24) (ha : l.all mayB = true) : putL l = (l.length : Int) :: allB l := by
  unfold putL putOk
  rw [if_pos (by simp only [Bool.and_eq_true, decide_eq_true_eq]; exact ⟨h, ha⟩)]
theorem putL_long {l : List In} (h : 24 < l.length) : putL l = [] := by
  unfold putL putOk
  rw [if_neg (by simp only [Bool.and_eq_true, decide_eq_true_eq]; omega)]
theorem putL_bad {l : List In} (k : Nat) (hk : k < l.length) (h : mayB l[k] = false) : putL l = [] := by
  unfold putL putOk
  rw [if_neg]
  intro hh
  simp only [Bool.and_eq_true, List.all_eq_true] at hh
  have := hh.2 l[k] (List.getElem_mem hk)
  rw [h] at this
  cases this
theorem all_take_succ {l : List In} {k : Nat} (hk : k < l.length) (h : (l.take k).all mayB = true) (hm : mayB l[k] = true) : (l.take (k + 1)).all mayB = true := by
  rw [List.take_succ_eq_append_getElem hk, List.all_append]
  simp [h, hm]
theorem encB_bd (x : In) : ∀ y ∈ encB x, 0 ≤ y ∧ y ≤ 255 := by
  intro y hy
  simp only [encB, List.mem_cons, List.not_mem_nil, or_false] at hy
  rcases hy with rfl | rfl | rfl | rfl | rfl | rfl | rfl <;> omega
theorem allB_bd : ∀ (l : List In), ∀ y ∈ allB l, 0 ≤ y ∧ y ≤ 255
  | x :: r, y, hy => by
    simp only [allB, List.mem_append] at hy
    rcases hy with hy | hy
    · exact encB_bd x y hy
    · exact allB_bd r y hy
theorem putL_bd (l : List In) : ∀ y ∈ putL l, 0 ≤ y ∧ y ≤ 255 := by
  intro y hy
  unfold putL at hy
  split at hy
  · rename_i h
    unfold putOk at h
    simp only [Bool.and_eq_true, decide_eq_true_eq] at h
    rcases List.mem_cons.1 hy with rfl | hy
    · omega
    · exact allB_bd l y hy
  · simp at hy
theorem putL_len_le (l : List In) : (putL l).length ≤ 169 := by
  unfold putL
  split
  · rename_i h
    unfold putOk at h
    simp only [Bool.and_eq_true, decide_eq_true_eq] at h
    simp only [List.length_cons, allB_len]
    omega
  · simp

/-- 32 bits as a number with a sign -/
def s32 (u : Int) : Int := if u < 2147483648 then u else u - 4294967296
def u4 (b0 b1 b2 b3 : Int) : Int := b0 * 16777216 + b1 * 65536 + b2 * 256 + b3
/-- what seven bytes tell -/
def decI (b : List Int) : In := (b.getD 0 0, b.getD 1 0, b.getD 2 0, s32 (u4 (b.getD 3 0) (b.getD 4 0) (b.getD 5 0) (b.getD 6 0)))
def decL : Nat → List Int → List In
  | 0, _ => []
  | n + 1, b => decI b :: decL n (b.drop 7)
theorem decL_len : ∀ (n : Nat) (b : List Int), (decL n b).length = n
  | 0, _ => rfl
  | n + 1, b => by simp [decL, decL_len n]
theorem decL_succ : ∀ (n : Nat) (b : List Int), decL (n + 1) b = decL n b ++ [decI (b.drop (7 * n))]
  | 0, b => by simp [decL]
  | n + 1, b => by
    show decI b :: decL (n + 1) (b.drop 7) = decI b :: decL n (b.drop 7) ++ _
    rw [decL_succ n (b.drop 7), List.drop_drop, List.cons_append, show 7 + 7 * n = 7 * (n + 1) by omega]
theorem decL_take (n : Nat) (b : List Int) (k : Nat) (hk : k ≤ n) : (decL n b).take k = decL k b := by
  induction n with
  | zero => obtain rfl : k = 0 := by omega
            rfl
  | succ n ih =>
    by_cases h : k = n + 1
    · subst h
      rw [List.take_of_length_le (by rw [decL_len]; exact Nat.le_refl _)]
    · rw [decL_succ, List.take_append_of_le_length (by rw [decL_len]; omega)]
      exact ih (by omega)
theorem decL_get (n : Nat) (b : List Int) (k : Nat) (hk : k < n) : (decL n b)[k]'(by rw [decL_len]; exact hk) = decI (b.drop (7 * k)) := by
  have h1 := decL_take n b (k + 1) (by omega)
  rw [List.take_succ_eq_append_getElem (by rw [decL_len]; exact hk), decL_take n b k (by omega), decL_succ] at h1
  exact List.head_eq_of_cons_eq (List.append_cancel_left h1)

def lenOk (b : List Int) : Bool := decide (b ≠ []) && (decide (b.getD 0 0 ≤ 24) && decide ((b.length : Int) = 1 + 7 * b.getD 0 0))
/-- what Take tells -/
def allI (b : List Int) : List In := decL (b.getD 0 0).toNat (b.drop 1)
def okT (b : List Int) : Bool := lenOk b && (allI b).all mayB
def takeL (b : List Int) : List In := if okT b then allI b else []
theorem okT_len {b : List Int} (h : lenOk b = false) : okT b = false := by unfold okT; rw [h]; rfl
theorem takeL_no {b : List Int} (h : okT b = false) : takeL b = [] := by unfold takeL; rw [if_neg (by rw [h]; simp)]
theorem takeL_yes {b : List Int} (h : okT b = true) : takeL b = allI b := by unfold takeL; rw [if_pos h]
theorem okT_yes {b : List Int} (h : lenOk b = true) (h2 : (allI b).all mayB = true) : okT b = true := by unfold okT; rw [h, h2]; rfl
theorem okT_bad {b : List Int} (k : Nat) (hk : k < (allI b).length) (h : mayB (allI b)[k] = false) : okT b = false := by
  unfold okT
  have : (allI b).all mayB = false := by
    rw [Bool.eq_false_iff]
    intro hh
    rw [List.all_eq_true] at hh
    have := hh _ (List.getElem_mem hk)
    rw [h] at this
    cases this
  rw [this, Bool.and_false]

/-! ### what is put is taken -/
theorem s32_enc (n : Int) (h : -2147483648 ≤ n ∧ n ≤ 2147483647) : s32 (u4 (n % 4294967296 / 16777216) (n % 4294967296 / 65536 % 256) (n % 4294967296 / 256 % 256) (n % 256)) = n := by
  unfold s32 u4
  split <;> omega
theorem decI_enc {x : In} (h : mayB x = true) (r : List Int) : decI (encB x ++ r) = x := by
  obtain ⟨h1, h2, h3, h4⟩ := may_bd h
  obtain ⟨o, a, b, n⟩ := x
  simp only at h1 h2 h3 h4
  have e := s32_enc n h4
  show (o % 256, a % 256, b % 256, s32 (u4 (n % 4294967296 / 16777216) (n % 4294967296 / 65536 % 256) (n % 4294967296 / 256 % 256) (n % 256))) = (o, a, b, n)
  rw [e, show o % 256 = o by omega, show a % 256 = a by omega, show b % 256 = b by omega]
theorem decL_all : ∀ (l : List In) (r : List Int), l.all mayB = true → decL l.length (allB l ++ r) = l
  | [], _, _ => rfl
  | x :: l, r, h => by
    simp only [List.all_cons, Bool.and_eq_true] at h
    show decI (allB (x :: l) ++ r) :: decL l.length ((allB (x :: l) ++ r).drop 7) = _
    rw [allB, List.append_assoc, decI_enc h.1, List.drop_append_of_le_length (by rw [encB_len]; omega), List.drop_of_length_le (by rw [encB_len]; omega), List.nil_append, decL_all l r h.2]
theorem put_take {l : List In} (h : l.length ≤ 24) (ha : l.all mayB = true) : okT (putL l) = true ∧ takeL (putL l) = l := by
  have hp := putL_yes h ha
  have hi : allI (putL l) = l := by
    unfold allI
    rw [hp]
    simp only [List.getD_cons_zero, Int.toNat_natCast, List.drop_succ_cons, List.drop_zero]
    have := decL_all l [] ha
    rwa [List.append_nil] at this
  have hl : lenOk (putL l) = true := by
    unfold lenOk
    rw [hp]
    simp [allB_len]
    omega
  have ho : okT (putL l) = true := okT_yes hl (by rw [hi]; exact ha)
  exact ⟨ho, by rw [takeL_yes ho, hi]⟩
theorem put_inj {l m : List In} (h : l.length ≤ 24) (ha : l.all mayB = true) (h' : m.length ≤ 24) (ha' : m.all mayB = true) : putL l = putL m ↔ l = m := by
  constructor
  · intro e
    rw [← (put_take h ha).2, e, (put_take h' ha').2]
  · intro e; rw [e]
theorem put_cut {l : List In} (h : l.length ≤ 24) (ha : l.all mayB = true) (k : Nat) (hk : k < (putL l).length) : okT ((putL l).take k) = false := by
  apply okT_len
  rw [putL_yes h ha] at hk ⊢
  cases k with
  | zero => rfl
  | succ k =>
    unfold lenOk
    simp only [List.length_cons, allB_len] at hk
    simp [allB_len]
    intro _
    omega
theorem put_more {l : List In} (h : l.length ≤ 24) (ha : l.all mayB = true) (x : Int) : okT (putL l ++ [x]) = false := by
  apply okT_len
  rw [putL_yes h ha]
  unfold lenOk
  simp [allB_len]
  intro _
  omega
theorem putL_len {l : List In} (h : l.length ≤ 24) (ha : l.all mayB = true) : (putL l).length = 1 + 7 * l.length := by
  rw [putL_yes h ha]
  simp [allB_len]; omega
end Go.Proofs.Ytonholadabebbaa

namespace Go.Proofs.Ytonholadabebbaa

def z4 : In := (0, 0, 0, 0)
def gt (l : List In) (i : Nat) : In := l.getD i z4
theorem gt_eq {l : List In} {i : Nat} (h : i < l.length) : gt l i = l[i] := by
  unfold gt
  rw [List.getD_eq_getElem?_getD, List.getElem?_eq_getElem h]
  rfl
theorem gt_out {l : List In} {i : Nat} (h : l.length ≤ i) : gt l i = z4 := by
  unfold gt
  rw [List.getD_eq_getElem?_getD, List.getElem?_eq_none h]
  rfl
/-- how far a body or a reach goes -/
def reachI (x : In) : Int := if x.1 = 8 then x.2.2.1 else if x.1 = 7 then x.2.2.2 else 0
def rch (x : In) : Nat := (reachI x).toNat
theorem reach_bd {x : In} (h : mayB x = true) : 0 ≤ reachI x ∧ reachI x ≤ 24 := by
  have h := may_iff.1 h
  unfold mayP at h
  unfold reachI
  split
  · omega
  · split <;> omega
theorem rch_eq {x : In} (h : mayB x = true) : (rch x : Int) = reachI x := by
  have := reach_bd h
  unfold rch
  omega
theorem all_get {l : List In} (h : l.all mayB = true) {i : Nat} (hi : i < l.length) : mayB l[i] = true := List.all_eq_true.1 h _ (List.getElem_mem hi)
theorem all_gt {l : List In} (h : l.all mayB = true) (i : Nat) : mayB (gt l i) = true := by
  by_cases hi : i < l.length
  · rw [gt_eq hi]; exact all_get h hi
  · rw [gt_out (by omega)]; decide

def allN (n : Nat) (p : Nat → Bool) : Bool := (List.range n).all p
theorem allN_iff {n : Nat} {p : Nat → Bool} : allN n p = true ↔ ∀ i, i < n → p i = true := by simp [allN]
theorem allN_no {n : Nat} {p : Nat → Bool} (i : Nat) (hi : i < n) (h : p i = false) : allN n p = false := by
  rw [Bool.eq_false_iff]
  intro ha
  rw [allN_iff.1 ha i hi] at h
  cases h
def anyN (n : Nat) (p : Nat → Bool) : Bool := (List.range n).any p
theorem anyN_iff {n : Nat} {p : Nat → Bool} : anyN n p = true ↔ ∃ i, i < n ∧ p i = true := by simp [anyN]
theorem anyN_no {n : Nat} {p : Nat → Bool} : anyN n p = false ↔ ∀ i, i < n → p i = false := by
  simp [anyN]
def cntN (n : Nat) (p : Nat → Bool) : Nat := ((List.range n).filter p).length
theorem cntN_zero (p : Nat → Bool) : cntN 0 p = 0 := rfl
theorem cntN_yes {n : Nat} {p : Nat → Bool} (h : p n = true) : cntN (n + 1) p = cntN n p + 1 := by simp [cntN, List.range_succ, List.filter_append, h]
theorem cntN_no {n : Nat} {p : Nat → Bool} (h : p n = false) : cntN (n + 1) p = cntN n p := by simp [cntN, List.range_succ, List.filter_append, h]
theorem cntN_le (n : Nat) (p : Nat → Bool) : cntN n p ≤ n := by have := List.length_filter_le p (List.range n); simpa [cntN] using this

/-- instruction i stands in the body or reach of f -/
def inA (l : List In) (f i : Nat) : Bool := decide (f < i) && decide (i ≤ f + rch (gt l f))
theorem inA_iff {l : List In} {f i : Nat} : inA l f i = true ↔ f < i ∧ i ≤ f + rch (gt l f) := by simp [inA]
theorem inA_no {l : List In} {f i : Nat} : inA l f i = false ↔ ¬ (f < i ∧ i ≤ f + rch (gt l f)) := by rw [← inA_iff]; simp
def scA (l : List In) (a k : Nat) : List Int := (List.range 24).map fun f => if decide (f < k) && inA l f a then (f : Int) + 1 else 0
theorem scA_len (l : List In) (a k : Nat) : (scA l a k).length = 24 := by simp [scA]
theorem scA_get {l : List In} {a k : Nat} {f : Nat} (hf : f < 24) : (scA l a k)[f]'(by rw [scA_len]; exact hf) = if decide (f < k) && inA l f a then (f : Int) + 1 else 0 := by simp [scA]
theorem scA_zero (l : List In) (a : Nat) : scA l a 0 = List.replicate 24 0 := by
  apply List.ext_getElem (by simp [scA])
  intro i h1 h2
  rw [scA_get (by simpa using h2), List.getElem_replicate]
  simp
theorem scA_yes {l : List In} {a k : Nat} (h : inA l k a = true) : scA l a (k + 1) = (scA l a k).set k ((k : Int) + 1) := by
  apply List.ext_getElem (by simp [scA])
  intro i h1 h2
  rw [scA_len] at h1
  rw [scA_get h1, List.getElem_set, scA_get h1]
  by_cases e : k = i
  · subst e; simp [h]
  · have : (i < k + 1) = (i < k) := by apply propext; omega
    simp [e, this]
theorem scA_no {l : List In} {a k : Nat} (h : inA l k a = false) : scA l a (k + 1) = scA l a k := by
  unfold scA
  congr 1
  funext f
  by_cases e : f = k
  · subst e; simp [h]
  · have : (f < k + 1) = (f < k) := by apply propext; omega
    simp [this]
def scL (l : List In) (a : Nat) : List Int := scA l a a
theorem scL_len (l : List In) (a : Nat) : (scL l a).length = 24 := scA_len l a a
theorem scL_get {l : List In} {a f : Nat} (hf : f < 24) : (scL l a)[f]'(by rw [scL_len]; exact hf) = if inA l f a then (f : Int) + 1 else 0 := by
  unfold scL
  rw [scA_get hf]
  by_cases h : inA l f a = true
  · have := (inA_iff.1 h).1
    simp [h, this]
  · simp [h]
theorem scL_eq {l : List In} {a b : Nat} : scL l a = scL l b ↔ ∀ f, f < 24 → inA l f a = inA l f b := by
  constructor
  · intro h f hf
    have h1 := scL_get (l := l) (a := a) hf
    have h2 := scL_get (l := l) (a := b) hf
    have : (scL l a)[f]'(by rw [scL_len]; exact hf) = (scL l b)[f]'(by rw [scL_len]; exact hf) := by simp only [h]
    rw [h1, h2] at this
    cases ha : inA l f a <;> cases hb : inA l f b <;> simp [ha, hb] at this ⊢ <;> omega
  · intro h
    apply List.ext_getElem (by rw [scL_len, scL_len])
    intro i h1 h2
    rw [scL_len] at h1
    rw [scL_get h1, scL_get h1, h i h1]
theorem scL_zero {l : List In} {a : Nat} : scL l a = List.replicate 24 0 ↔ ∀ f, f < 24 → inA l f a = false := by
  constructor
  · intro h f hf
    have h1 := scL_get (l := l) (a := a) hf
    simp only [h, List.getElem_replicate] at h1
    cases ha : inA l f a <;> simp [ha] at h1 ⊢
    omega
  · intro h
    apply List.ext_getElem (by rw [scL_len, List.length_replicate])
    intro i h1 h2
    rw [scL_len] at h1
    rw [scL_get h1, h i h1, List.getElem_replicate]
    simp
/-- how many bodies there are around -/
def bodN (l : List In) (a k : Nat) : Nat := cntN k fun f => inA l f a && (gt l f).1 == 8

def closB (l : List In) : Bool := allN l.length fun i => decide ((i : Int) + reachI (gt l i) < l.length)
def rowB (l : List In) : Bool := decide (1 ≤ l.length) && decide (l.length ≤ 24) && allN l.length fun i => mayB (gt l i) && ((gt l i).1 == 0) == decide (i + 1 = l.length)
def ahd (l : List In) : List In := l.take (l.length - 1)
def nestB (l : List In) : Bool := closB (ahd l) && allN (l.length - 1) fun i => closB (((ahd l).drop (i + 1)).take (rch (gt l i)))
def shalB (l : List In) : Bool := allN l.length fun i => decide (bodN l i 24 ≤ 2)

/-- what is held, behind instruction i -/
def stepO (l : List In) (i : Nat) (o : List Nat) : Option (List Nat) :=
  if (gt l i).1 = 9 then
    if o.any (fun k => (gt l k).2.1 == (gt l i).2.1) || decide (2 ≤ o.length) then none else some (o ++ [i])
  else if (gt l i).1 = 10 then
    match o.getLast? with
    | none => none
    | some k => if (gt l k).2.1 = (gt l i).2.1 ∧ scL l k = scL l i then some o.dropLast else none
  else some o
def runO (l : List In) : Nat → Option (List Nat)
  | 0 => some []
  | n + 1 => (runO l n).bind (stepO l n)
def outO (l : List In) : Nat → List Int
  | 0 => List.replicate l.length 0
  | n + 1 => if (gt l n).1 = 10 then match (runO l n).bind (·.getLast?) with
      | some k => (outO l n).set k n
      | none => outO l n
    else outO l n
def okP (l : List In) : Bool := decide (runO l l.length = some [])
def pairL (l : List In) : List Int := outO l l.length
def betw (u : List Int) (i : Nat) : Bool := anyN u.length fun k => decide (k < i) && decide ((i : Int) < u.getD k 0)
def markB (l : List In) : Bool := allN l.length fun i => !((gt l i).1 == 11 && (decide (scL l i ≠ List.replicate 24 0) || betw (pairL l) i))
def okB (l : List In) : Bool := rowB l && nestB l && shalB l && okP l && markB l

theorem outO_len (l : List In) : ∀ n, (outO l n).length = l.length
  | 0 => by simp [outO]
  | n + 1 => by
    unfold outO
    split
    · split
      · rw [List.length_set, outO_len l n]
      · exact outO_len l n
    · exact outO_len l n
/-- what is held lies ahead, is a Lock, is of one semaphore each, in order, and is two at most -/
structure Held (l : List In) (n : Nat) (o : List Nat) : Prop where
  lt : ∀ k ∈ o, k < n
  op : ∀ k ∈ o, (gt l k).1 = 9
  le : o.length ≤ 2
  ne : ∀ a b, o = [a, b] → (gt l a).2.1 ≠ (gt l b).2.1 ∧ a < b
theorem runO_succ {l : List In} {n : Nat} {o' : List Nat} (h : runO l (n + 1) = some o') : ∃ o, runO l n = some o ∧ stepO l n o = some o' := by
  unfold runO at h
  cases hr : runO l n with
  | none => rw [hr] at h; cases h
  | some o => rw [hr] at h; exact ⟨o, rfl, h⟩
theorem runO_none {l : List In} {n : Nat} (h : runO l n = none) : ∀ m, n ≤ m → runO l m = none
  | 0, hm => by obtain rfl : n = 0 := by omega
                exact h
  | m + 1, hm => by
    by_cases e : n = m + 1
    · subst e; exact h
    · unfold runO; rw [runO_none h m (by omega)]; rfl
theorem runO_held (l : List In) : ∀ n o, runO l n = some o → Held l n o
  | 0, o, h => by
    simp [runO] at h
    subst h
    exact ⟨by simp, by simp, by simp, by simp⟩
  | n + 1, o', h => by
    obtain ⟨o, hr, hs⟩ := runO_succ h
    have ih := runO_held l n o hr
    unfold stepO at hs
    split at hs
    · rename_i h9
      split at hs
      · cases hs
      · rename_i hn
        simp only [Option.some.injEq] at hs
        subst hs
        simp only [Bool.or_eq_true, List.any_eq_true, beq_iff_eq, decide_eq_true_eq, not_or, not_exists, not_and] at hn
        obtain ⟨hn1, hn2⟩ := hn
        refine ⟨fun k hk => ?_, fun k hk => ?_, by simp; omega, fun a b e => ?_⟩
        · rcases List.mem_append.1 hk with hk | hk
          · have := ih.lt k hk; omega
          · simp at hk; omega
        · rcases List.mem_append.1 hk with hk | hk
          · exact ih.op k hk
          · simp at hk; subst hk; exact h9
        · cases o with
          | nil => simp at e
          | cons x r =>
            cases r with
            | nil =>
              simp at e
              obtain ⟨rfl, rfl⟩ := e
              exact ⟨hn1 x (by simp), ih.lt x (by simp)⟩
            | cons y r => simp at e
    · split at hs
      · split at hs
        · cases hs
        · split at hs
          · simp only [Option.some.injEq] at hs
            subst hs
            have hsub : ∀ k ∈ o.dropLast, k ∈ o := fun k hk => List.dropLast_subset o hk
            refine ⟨fun k hk => by have := ih.lt k (hsub k hk); omega, fun k hk => ih.op k (hsub k hk), by simp; have := ih.le; omega, fun a b e => ?_⟩
            have := congrArg List.length e
            have := ih.le
            simp at *
            omega
          · cases hs
      · simp only [Option.some.injEq] at hs
        subst hs
        exact ⟨fun k hk => by have := ih.lt k hk; omega, ih.op, ih.le, ih.ne⟩
end Go.Proofs.Ytonholadabebbaa

namespace Go.Proofs.Ytonholadabebbaa

def plB (x : In) : Bool := mayB x && (decide (1 ≤ x.1) && decide (x.1 ≤ 6))
theorem pl_of {x : In} (h : mayP x) (h1 : 1 ≤ x.1) (h2 : x.1 ≤ 6) : plB x = true := by unfold plB; rw [may_of h]; simp [h1, h2]
theorem pl_may {x : In} (h : plB x = true) : mayB x = true := by unfold plB at h; simp at h; exact h.1
theorem pl_op {x : In} (h : plB x = true) : 1 ≤ x.1 ∧ x.1 ≤ 6 := by unfold plB at h; simp at h; exact h.2
def mayW (x : In) : Bool := mayB x && (decide (x.1 ≠ 8) || decide (x.2.2.2 ≤ 3))
theorem mw_of {x : In} (h : mayP x) (h1 : x.1 = 8 → x.2.2.2 ≤ 3) : mayW x = true := by
  unfold mayW
  rw [may_of h]
  by_cases h8 : x.1 = 8
  · simp [h1 h8]
  · simp [h8]
theorem mw_may {x : In} (h : mayW x = true) : mayB x = true := by unfold mayW at h; simp at h; exact h.1
theorem mw_rep {x : In} (h : mayW x = true) (h8 : x.1 = 8) : x.2.2.2 ≤ 3 := by unfold mayW at h; simp [h8] at h; exact h.2
theorem mw_pl {x : In} (h : plB x = true) : mayW x = true := mw_of (may_iff.1 (pl_may h)) (fun e => by have := pl_op h; omega)
theorem allW_B {l : List In} (h : l.all mayW = true) : l.all mayB = true := by
  rw [List.all_eq_true] at h ⊢
  exact fun x hx => mw_may (h x hx)
theorem allW_app {a b : List In} (ha : a.all mayW = true) (hb : b.all mayW = true) : (a ++ b).all mayW = true := by rw [List.all_append, ha, hb]; rfl

theorem gt_left {a b : List In} {i : Nat} (h : i < a.length) : gt (a ++ b) i = gt a i := by
  unfold gt
  simp [List.getD_eq_getElem?_getD, List.getElem?_append_left h]
theorem gt_right {a b : List In} {i : Nat} (h : a.length ≤ i) : gt (a ++ b) i = gt b (i - a.length) := by
  unfold gt
  simp [List.getD_eq_getElem?_getD, List.getElem?_append_right h]
theorem gt_cons {x : In} {b : List In} {i : Nat} : gt (x :: b) (i + 1) = gt b i := by simp [gt]
theorem gt_zero {x : In} {b : List In} : gt (x :: b) 0 = x := by simp [gt]
theorem rch_op {x : In} (h7 : x.1 ≠ 7) (h8 : x.1 ≠ 8) : rch x = 0 := by simp [rch, reachI, h7, h8]
theorem rch_out {l : List In} {i : Nat} (h : l.length ≤ i) : rch (gt l i) = 0 := by rw [gt_out h]; rfl

/-- plain ones and pairs -/
structure Gd0 (l : List In) : Prop where
  may : l.all mayW = true
  op : ∀ i, i < l.length → (1 ≤ (gt l i).1 ∧ (gt l i).1 ≤ 6) ∨ (gt l i).1 = 9 ∨ (gt l i).1 = 10
  lock : ∀ i, i < l.length → (gt l i).1 = 9 → i + 2 < l.length ∧ (gt l (i + 2)).1 = 10 ∧ (gt l (i + 2)).2.1 = (gt l i).2.1 ∧ 1 ≤ (gt l (i + 1)).1 ∧ (gt l (i + 1)).1 ≤ 6
  un : ∀ i, i < l.length → (gt l i).1 = 10 → 2 ≤ i ∧ (gt l (i - 2)).1 = 9
theorem gd0_nil : Gd0 [] := ⟨rfl, fun i h => by simp at h, fun i h => by simp at h, fun i h => by simp at h⟩
theorem gd0_app {a b : List In} (ha : Gd0 a) (hb : Gd0 b) : Gd0 (a ++ b) := by
  refine ⟨allW_app ha.may hb.may, fun i hi => ?_, fun i hi h => ?_, fun i hi h => ?_⟩
  · rw [List.length_append] at hi
    by_cases hc : i < a.length
    · rw [gt_left hc]; exact ha.op i hc
    · rw [gt_right (by omega)]; exact hb.op _ (by omega)
  · rw [List.length_append] at hi ⊢
    by_cases hc : i < a.length
    · rw [gt_left hc] at h ⊢
      obtain ⟨h1, h2, h3, h4⟩ := ha.lock i hc h
      rw [gt_left h1, gt_left (by omega)]
      exact ⟨by omega, h2, h3, h4⟩
    · rw [gt_right (by omega)] at h ⊢
      obtain ⟨h1, h2, h3, h4⟩ := hb.lock _ (by omega) h
      rw [gt_right (by omega), gt_right (by omega), show i + 2 - a.length = i - a.length + 2 by omega, show i + 1 - a.length = i - a.length + 1 by omega]
      exact ⟨by omega, h2, h3, h4⟩
  · rw [List.length_append] at hi
    by_cases hc : i < a.length
    · rw [gt_left hc] at h
      obtain ⟨h1, h2⟩ := ha.un i hc h
      rw [gt_left (by omega)]
      exact ⟨h1, h2⟩
    · rw [gt_right (by omega)] at h
      obtain ⟨h1, h2⟩ := hb.un _ (by omega) h
      rw [gt_right (by omega), show i - 2 - a.length = i - a.length - 2 by omega]
      exact ⟨by omega, h2⟩
theorem gd0_plain {x : In} (h : plB x = true) : Gd0 [x] := by
  have ho := pl_op h
  refine ⟨by simp [mw_pl h], fun i hi => ?_, fun i hi h9 => ?_, fun i hi h9 => ?_⟩
  all_goals
    obtain rfl : i = 0 := by simp at hi; omega
    rw [gt_zero] at *
  · exact .inl ho
  · omega
  · omega
theorem gd0_pair {s : Int} {x : In} (h : plB x = true) (h0 : 0 ≤ s) (h3 : s ≤ 3) : Gd0 [(9, s, 0, 0), x, (10, s, 0, 0)] := by
  have ho := pl_op h
  have e1 : gt [(9, s, 0, 0), x, (10, s, 0, 0)] 0 = (9, s, 0, 0) := rfl
  have e2 : gt [(9, s, 0, 0), x, (10, s, 0, 0)] 1 = x := rfl
  have e3 : gt [(9, s, 0, 0), x, (10, s, 0, 0)] 2 = (10, s, 0, 0) := rfl
  have m1 : mayW (9, s, 0, 0) = true := mw_of (by unfold mayP; simp; omega) (by simp)
  have m3 : mayW (10, s, 0, 0) = true := mw_of (by unfold mayP; simp; omega) (by simp)
  refine ⟨by simp [mw_pl h, m1, m3], fun i hi => ?_, fun i hi h9 => ?_, fun i hi h9 => ?_⟩
  all_goals
    simp at hi
    have : i = 0 ∨ i = 1 ∨ i = 2 := by omega
    rcases this with rfl | rfl | rfl
  · rw [e1]; simp
  · rw [e2]; exact .inl ho
  · rw [e3]; simp
  · rw [e1, e3, e2]; simp; exact ho
  · rw [e2] at h9; omega
  · rw [e3] at h9; simp at h9
  · rw [e1] at h9; simp at h9
  · rw [e2] at h9; omega
  · show 2 ≤ 2 ∧ (gt _ 0).1 = 9; rw [e1]; simp

/-- .. with bodies and reaches of such, and Marks -/
structure Gd (l : List In) : Prop where
  may : l.all mayW = true
  fin : ∀ i, i < l.length → (gt l i).1 ≠ 0
  area : ∀ i, i < l.length → i + rch (gt l i) < l.length
  flat : ∀ i j, inA l i j = true → rch (gt l j) = 0
  lock : ∀ i, i < l.length → (gt l i).1 = 9 → i + 2 < l.length ∧ (gt l (i + 2)).1 = 10 ∧ (gt l (i + 2)).2.1 = (gt l i).2.1 ∧ 1 ≤ (gt l (i + 1)).1 ∧ (gt l (i + 1)).1 ≤ 6
  un : ∀ i, i < l.length → (gt l i).1 = 10 → 2 ≤ i ∧ (gt l (i - 2)).1 = 9
  scope : ∀ f i, i < l.length → (gt l i).1 = 9 → inA l f i = inA l f (i + 2)
  mark : ∀ f i, i < l.length → (gt l i).1 = 11 → inA l f i = false
theorem inA_left {a b : List In} {f i : Nat} (h : f < a.length) : inA (a ++ b) f i = inA a f i := by unfold inA; rw [gt_left h]
theorem inA_right {a b : List In} {f i : Nat} (h : a.length ≤ f) : inA (a ++ b) f i = inA b (f - a.length) (i - a.length) := by
  rw [Bool.eq_iff_iff, inA_iff, inA_iff, gt_right h]
  omega
theorem inA_none {l : List In} {f i : Nat} (h : rch (gt l f) = 0) : inA l f i = false := by rw [inA_no]; omega
theorem gd_nil : Gd [] := ⟨rfl, fun i h => by simp at h, fun i h => by simp at h, fun i j h => rch_out (by simp), fun i h => by simp at h, fun i h => by simp at h, fun f i h => by simp at h, fun f i h => by simp at h⟩
theorem gd_app {a b : List In} (ha : Gd a) (hb : Gd b) : Gd (a ++ b) := by
  refine ⟨allW_app ha.may hb.may, fun i hi => ?_, fun i hi => ?_, fun i j h => ?_, fun i hi h => ?_, fun i hi h => ?_, fun f i hi h => ?_, fun f i hi h => ?_⟩
  · rw [List.length_append] at hi
    by_cases hc : i < a.length
    · rw [gt_left hc]; exact ha.fin i hc
    · rw [gt_right (by omega)]; exact hb.fin _ (by omega)
  · rw [List.length_append] at hi ⊢
    by_cases hc : i < a.length
    · rw [gt_left hc]; have := ha.area i hc; omega
    · rw [gt_right (by omega)]; have := hb.area _ (show i - a.length < b.length by omega); omega
  · by_cases hc : i < a.length
    · rw [inA_left hc] at h
      have := inA_iff.1 h
      have := ha.area i hc
      rw [gt_left (by omega)]
      exact ha.flat i j h
    · rw [inA_right (by omega)] at h
      have := inA_iff.1 h
      rw [gt_right (by omega)]
      exact hb.flat _ _ h
  · rw [List.length_append] at hi ⊢
    by_cases hc : i < a.length
    · rw [gt_left hc] at h ⊢
      obtain ⟨h1, h2, h3, h4⟩ := ha.lock i hc h
      rw [gt_left h1, gt_left (by omega)]
      exact ⟨by omega, h2, h3, h4⟩
    · rw [gt_right (by omega)] at h ⊢
      obtain ⟨h1, h2, h3, h4⟩ := hb.lock _ (by omega) h
      rw [gt_right (by omega), gt_right (by omega), show i + 2 - a.length = i - a.length + 2 by omega, show i + 1 - a.length = i - a.length + 1 by omega]
      exact ⟨by omega, h2, h3, h4⟩
  · rw [List.length_append] at hi
    by_cases hc : i < a.length
    · rw [gt_left hc] at h
      obtain ⟨h1, h2⟩ := ha.un i hc h
      rw [gt_left (by omega)]
      exact ⟨h1, h2⟩
    · rw [gt_right (by omega)] at h
      obtain ⟨h1, h2⟩ := hb.un _ (by omega) h
      rw [gt_right (by omega), show i - 2 - a.length = i - a.length - 2 by omega]
      exact ⟨by omega, h2⟩
  · rw [List.length_append] at hi
    by_cases hc : i < a.length
    · rw [gt_left hc] at h
      have hl := ha.lock i hc h
      by_cases hf : f < a.length
      · rw [inA_left hf, inA_left hf]; exact ha.scope f i hc h
      · have e1 : inA (a ++ b) f i = false := inA_no.2 (by omega)
        have e2 : inA (a ++ b) f (i + 2) = false := inA_no.2 (by omega)
        rw [e1, e2]
    · rw [gt_right (by omega)] at h
      by_cases hf : f < a.length
      · have := ha.area f hf
        have e1 : inA (a ++ b) f i = false := inA_no.2 (by rw [gt_left hf]; omega)
        have e2 : inA (a ++ b) f (i + 2) = false := inA_no.2 (by rw [gt_left hf]; omega)
        rw [e1, e2]
      · rw [inA_right (by omega), inA_right (by omega), show i + 2 - a.length = i - a.length + 2 by omega]
        exact hb.scope _ _ (by omega) h
  · rw [List.length_append] at hi
    by_cases hc : i < a.length
    · rw [gt_left hc] at h
      by_cases hf : f < a.length
      · rw [inA_left hf]; exact ha.mark f i hc h
      · exact inA_no.2 (by omega)
    · rw [gt_right (by omega)] at h
      by_cases hf : f < a.length
      · have := ha.area f hf
        exact inA_no.2 (by rw [gt_left hf]; omega)
      · rw [inA_right (by omega)]; exact hb.mark _ _ (by omega) h
theorem gd0_rch {l : List In} (h : Gd0 l) (i : Nat) : rch (gt l i) = 0 := by
  by_cases hi : i < l.length
  · have := h.op i hi
    exact rch_op (by omega) (by omega)
  · exact rch_out (by omega)
theorem gd_of0 {l : List In} (h : Gd0 l) : Gd l := by
  refine ⟨h.may, fun i hi => by have := h.op i hi; omega, fun i hi => by rw [gd0_rch h]; omega, fun i j _ => gd0_rch h j, h.lock, h.un, fun f i _ _ => ?_, fun f i hi h' => by have := h.op i hi; omega⟩
  rw [inA_none (gd0_rch h f), inA_none (gd0_rch h f)]
theorem gd_mark : Gd [(11, 0, 0, 0)] := by
  have e : ∀ i, rch (gt [(11, 0, 0, 0)] i) = 0 := fun i => by
    by_cases hi : i < 1
    · obtain rfl : i = 0 := by omega
      rfl
    · exact rch_out (by simp; omega)
  refine ⟨by decide, fun i hi => ?_, fun i hi => by rw [e]; simpa using hi, fun i j _ => e j, fun i hi h => ?_, fun i hi h => ?_, fun f i _ _ => by rw [inA_none (e f), inA_none (e f)], fun f i _ _ => inA_none (e f)⟩
  all_goals
    obtain rfl : i = 0 := by simp at hi; omega
  · decide
  · exact absurd h (by decide)
  · exact absurd h (by decide)
/-- a body or a reach -/
theorem gd_head {x : In} {b : List In} (hb : Gd0 b) (hx : mayW x = true) (ho : x.1 = 7 ∨ x.1 = 8) (hr : rch x = b.length) : Gd (x :: b) := by
  have er : ∀ i, rch (gt (x :: b) (i + 1)) = 0 := fun i => by rw [gt_cons]; exact gd0_rch hb i
  have e0 : rch (gt (x :: b) 0) = b.length := by rw [gt_zero, hr]
  have ein : ∀ f i, inA (x :: b) f i = true ↔ f = 0 ∧ 1 ≤ i ∧ i ≤ b.length := fun f i => by
    rw [inA_iff]
    cases f with
    | zero => rw [e0]; omega
    | succ f => rw [er]; omega
  refine ⟨by simp only [List.all_cons, hx, hb.may]; rfl, fun i hi => ?_, fun i hi => ?_, fun i j h => ?_, fun i hi h => ?_, fun i hi h => ?_, fun f i hi h => ?_, fun f i hi h => ?_⟩
  · cases i with
    | zero => rw [gt_zero]; omega
    | succ i => rw [gt_cons]; have := hb.op i (by simpa using hi); omega
  · cases i with
    | zero => rw [e0]; simp
    | succ i => rw [er]; exact hi
  · obtain ⟨_, h1, _⟩ := (ein i j).1 h
    cases j with
    | zero => omega
    | succ j => exact er j
  · cases i with
    | zero => rw [gt_zero] at h; omega
    | succ i =>
      rw [gt_cons] at h
      obtain ⟨h1, h2, h3, h4⟩ := hb.lock i (by simpa using hi) h
      rw [show i + 1 + 2 = (i + 2) + 1 by omega, show i + 1 + 1 = (i + 1) + 1 by omega, gt_cons, gt_cons, gt_cons]
      exact ⟨by simp; omega, h2, h3, h4⟩
  · cases i with
    | zero => rw [gt_zero] at h; omega
    | succ i =>
      rw [gt_cons] at h
      obtain ⟨h1, h2⟩ := hb.un i (by simpa using hi) h
      rw [show i + 1 - 2 = (i - 2) + 1 by omega, gt_cons]
      exact ⟨by omega, h2⟩
  · cases i with
    | zero => rw [gt_zero] at h; omega
    | succ i =>
      rw [gt_cons] at h
      obtain ⟨h1, _⟩ := hb.lock i (by simpa using hi) h
      rw [Bool.eq_iff_iff, ein, ein]
      omega
  · cases i with
    | zero => rw [gt_zero] at h; omega
    | succ i => rw [gt_cons] at h; have := hb.op i (by simpa using hi); omega
end Go.Proofs.Ytonholadabebbaa

namespace Go.Proofs.Ytonholadabebbaa

def E0 : In := (0, 0, 0, 0)
theorem gt_end (l : List In) : gt (l ++ [E0]) l.length = E0 := by rw [gt_right (Nat.le_refl _)]; simp [gt]
theorem gt_low {l : List In} {i : Nat} (h : i ≠ l.length) : gt (l ++ [E0]) i = gt l i := by
  by_cases hi : i < l.length
  · exact gt_left hi
  · rw [gt_out (by simp; omega), gt_out (by omega)]
theorem rch_low (l : List In) (i : Nat) : rch (gt (l ++ [E0]) i) = rch (gt l i) := by
  by_cases h : i = l.length
  · subst h; rw [gt_end, rch_out (Nat.le_refl _)]; rfl
  · rw [gt_low h]
theorem inA_low (l : List In) (f i : Nat) : inA (l ++ [E0]) f i = inA l f i := by unfold inA; rw [rch_low]
theorem cntN_le_one {n : Nat} {p : Nat → Bool} (h : ∀ f g, p f = true → p g = true → f = g) : cntN n p ≤ 1 := by
  induction n with
  | zero => simp [cntN]
  | succ n ih =>
    by_cases hn : p n = true
    · have : cntN n p = 0 := by
        unfold cntN
        rw [List.length_eq_zero_iff, List.filter_eq_nil_iff]
        intro f hf hp
        have := h f n hp hn
        simp at hf
        omega
      rw [cntN_yes hn]; omega
    · rw [cntN_no (by simpa using hn)]; exact ih
theorem scL_low (l : List In) (i : Nat) : scL (l ++ [E0]) i = scL l i := by
  unfold scL scA
  simp only [inA_low]

theorem gd_row {l : List In} (h : Gd l) (hl : l.length ≤ 23) : rowB (l ++ [E0]) = true := by
  unfold rowB
  rw [allN_iff.2 ?_]
  · simp; omega
  · intro i hi
    simp at hi
    by_cases e : i = l.length
    · subst e
      rw [gt_end]
      simp [E0]
      decide
    · rw [gt_low e]
      have hi' : i < l.length := by omega
      have h1 : mayB (gt l i) = true := by rw [gt_eq hi']; exact all_get (allW_B h.may) hi'
      have h2 := h.fin i hi'
      have h3 : ((gt l i).1 == 0) = false := by simpa using h2
      rw [h1, h3]
      simp
      omega
theorem ahd_snoc (l : List In) : ahd (l ++ [E0]) = l := by simp [ahd]
theorem gt_sub {l : List In} {a b j : Nat} (h : j < b) : gt ((l.drop a).take b) j = gt l (a + j) := by
  unfold gt
  simp [List.getD_eq_getElem?_getD, h, List.getElem?_drop]
theorem gd_reach {l : List In} (h : Gd l) {i : Nat} (hi : i < l.length) : reachI (gt l i) = (rch (gt l i) : Int) := by
  rw [gt_eq hi]
  exact (rch_eq (all_get (allW_B h.may) hi)).symm
theorem gd_nest {l : List In} (h : Gd l) : nestB (l ++ [E0]) = true := by
  unfold nestB
  rw [ahd_snoc, Bool.and_eq_true]
  constructor
  · refine allN_iff.2 (fun i hi => decide_eq_true ?_)
    have := h.area i hi
    rw [gd_reach h hi]
    omega
  · refine allN_iff.2 (fun i hi => ?_)
    simp at hi
    rw [rch_low]
    have ha := h.area i hi
    have hlen : ((l.drop (i + 1)).take (rch (gt l i))).length = rch (gt l i) := by simp; omega
    refine allN_iff.2 (fun j hj => decide_eq_true ?_)
    rw [hlen] at hj ⊢
    rw [gt_sub hj]
    have hin : inA l i (i + 1 + j) = true := inA_iff.2 (by omega)
    have := h.flat i _ hin
    rw [gd_reach h (by omega), this]
    omega
theorem gd_shal {l : List In} (h : Gd l) : shalB (l ++ [E0]) = true := by
  refine allN_iff.2 (fun i hi => decide_eq_true ?_)
  have : bodN (l ++ [E0]) i 24 ≤ 1 := by
    refine cntN_le_one (fun f g hf hg => ?_)
    rw [Bool.and_eq_true, inA_low] at hf hg
    have hf' := inA_iff.1 hf.1
    have hg' := inA_iff.1 hg.1
    by_cases h1 : f < g
    · have := h.flat f g (inA_iff.2 (by omega)); omega
    · by_cases h2 : g < f
      · have := h.flat g f (inA_iff.2 (by omega)); omega
      · omega
  omega

/-- what is held ahead of instruction i -/
def stO (l : List In) (i : Nat) : List Nat := if 1 ≤ i ∧ (gt l (i - 1)).1 = 9 then [i - 1] else if 2 ≤ i ∧ (gt l (i - 2)).1 = 9 then [i - 2] else []
theorem gt_op_low {l : List In} (i : Nat) (k : Int) (_hk : k ≠ 0) : (gt (l ++ [E0]) i).1 = k ↔ (gt l i).1 = k := by
  by_cases e : i = l.length
  · subst e
    rw [gt_end, gt_out (Nat.le_refl _)]
    rfl
  · rw [gt_low e]
theorem gd_lt {l : List In} {i : Nat} {k : Int} (h : (gt l i).1 = k) (hk : k ≠ 0) : i < l.length := by
  apply Decidable.byContradiction
  intro hn
  rw [gt_out (by omega)] at h
  exact hk h.symm
theorem gd_run {l : List In} (h : Gd l) : ∀ i, i ≤ l.length + 1 → runO (l ++ [E0]) i = some (stO l i)
  | 0, _ => by simp [runO, stO]
  | i + 1, hi => by
    have ih := gd_run h i (by omega)
    have hs : runO (l ++ [E0]) (i + 1) = stepO (l ++ [E0]) i (stO l i) := by
      show (runO _ i).bind _ = _
      rw [ih]
      rfl
    rw [hs]
    unfold stepO
    by_cases h9 : (gt l i).1 = 9
    · have hi' := gd_lt h9 (by decide)
      rw [if_pos ((gt_op_low i 9 (by decide)).2 h9)]
      have e1 : ¬ (1 ≤ i ∧ (gt l (i - 1)).1 = 9) := by
        rintro ⟨a1, a2⟩
        have := h.lock (i - 1) (by omega) a2
        rw [show i - 1 + 1 = i by omega] at this
        omega
      have e2 : ¬ (2 ≤ i ∧ (gt l (i - 2)).1 = 9) := by
        rintro ⟨a1, a2⟩
        have := h.lock (i - 2) (by omega) a2
        rw [show i - 2 + 2 = i by omega] at this
        omega
      have : stO l i = [] := by unfold stO; rw [if_neg e1, if_neg e2]
      rw [this]
      have h2 : stO l (i + 1) = [i] := by unfold stO; rw [if_pos ⟨by omega, by rw [Nat.add_sub_cancel]; exact h9⟩, Nat.add_sub_cancel]
      rw [h2]
      rfl
    · rw [if_neg (fun e => h9 ((gt_op_low i 9 (by decide)).1 e))]
      by_cases h10 : (gt l i).1 = 10
      · have hi' := gd_lt h10 (by decide)
        rw [if_pos ((gt_op_low i 10 (by decide)).2 h10)]
        obtain ⟨a1, a2⟩ := h.un i hi' h10
        obtain ⟨b1, b2, b3, b4⟩ := h.lock (i - 2) (by omega) a2
        rw [show i - 2 + 2 = i by omega] at b1 b2 b3
        rw [show i - 2 + 1 = i - 1 by omega] at b4
        have e1 : stO l i = [i - 2] := by unfold stO; rw [if_neg (by omega), if_pos ⟨a1, a2⟩]
        have e2 : stO l (i + 1) = [] := by
          unfold stO
          rw [if_neg (by rw [Nat.add_sub_cancel]; omega), if_neg (by rw [show i + 1 - 2 = i - 1 by omega]; omega)]
        rw [e1, e2]
        simp only [List.getLast?_singleton, List.dropLast_singleton]
        rw [if_pos]
        refine ⟨?_, ?_⟩
        · rw [gt_low (by omega), gt_low (by omega)]; exact b3.symm
        · rw [scL_low, scL_low, scL_eq]
          intro f _
          have := h.scope f (i - 2) (by omega) a2
          rw [show i - 2 + 2 = i by omega] at this
          exact this
      · rw [if_neg (fun e => h10 ((gt_op_low i 10 (by decide)).1 e))]
        congr 1
        unfold stO
        rw [if_neg (c := 1 ≤ i + 1 ∧ (gt l (i + 1 - 1)).1 = 9) (by rw [Nat.add_sub_cancel]; exact fun e => h9 e.2)]
        by_cases e1 : 1 ≤ i ∧ (gt l (i - 1)).1 = 9
        · rw [if_pos e1, if_pos (by rw [show i + 1 - 2 = i - 1 by omega]; exact ⟨by omega, e1.2⟩), show i + 1 - 2 = i - 1 by omega]
        · have e3 : ¬ (2 ≤ i ∧ (gt l (i - 2)).1 = 9) := by
            rintro ⟨a1, a2⟩
            have := h.lock (i - 2) (gd_lt a2 (by decide)) a2
            rw [show i - 2 + 2 = i by omega] at this
            omega
          rw [if_neg e1, if_neg e3, if_neg (by rw [show i + 1 - 2 = i - 1 by omega]; omega)]
theorem gd_ok {l : List In} (h : Gd l) : okP (l ++ [E0]) = true := by
  unfold okP
  have := gd_run h (l.length + 1) (Nat.le_refl _)
  rw [List.length_append]
  refine decide_eq_true (this.trans ?_)
  have e1 : ¬ (1 ≤ l.length + 1 ∧ (gt l (l.length + 1 - 1)).1 = 9) := by
    rw [Nat.add_sub_cancel, gt_out (Nat.le_refl _)]
    simp [z4]
  have e2 : ¬ (2 ≤ l.length + 1 ∧ (gt l (l.length + 1 - 2)).1 = 9) := by
    rintro ⟨a1, a2⟩
    have := h.lock _ (gd_lt a2 (by decide)) a2
    omega
  unfold stO
  rw [if_neg e1, if_neg e2]
theorem gd_out {l : List In} (h : Gd l) : ∀ m, m ≤ l.length + 1 → ∀ k, k < l.length + 1 → (outO (l ++ [E0]) m).getD k 0 = if (gt l k).1 = 9 ∧ k + 3 ≤ m then (k : Int) + 2 else 0
  | 0, _, k, hk => by
    rw [if_neg (by omega)]
    show (List.replicate _ (0 : Int)).getD k 0 = 0
    simp [List.getD_eq_getElem?_getD, List.getElem?_replicate]
    split <;> rfl
  | m + 1, hm, k, hk => by
    have ih := gd_out h m (by omega) k hk
    show (if (gt (l ++ [E0]) m).1 = 10 then _ else _ : List Int).getD k 0 = _
    by_cases h10 : (gt l m).1 = 10
    · have hm' := gd_lt h10 (by decide)
      rw [if_pos ((gt_op_low m 10 (by decide)).2 h10), gd_run h m (by omega)]
      obtain ⟨a1, a2⟩ := h.un m hm' h10
      obtain ⟨b1, b2, b3, b4⟩ := h.lock (m - 2) (by omega) a2
      rw [show m - 2 + 1 = m - 1 by omega] at b4
      have e1 : stO l m = [m - 2] := by unfold stO; rw [if_neg (by omega), if_pos ⟨a1, a2⟩]
      rw [e1]
      simp only [Option.bind_some, List.getLast?_singleton]
      have hlen : (outO (l ++ [E0]) m).length = l.length + 1 := by rw [outO_len]; simp
      by_cases e : k = m - 2
      · subst e
        rw [if_pos ⟨a2, by omega⟩]
        rw [List.getD_eq_getElem?_getD, List.getElem?_set_self (by omega)]
        simp
        omega
      · rw [List.getD_eq_getElem?_getD, List.getElem?_set_ne (fun h => e h.symm), ← List.getD_eq_getElem?_getD, ih]
        have : ((gt l k).1 = 9 ∧ k + 3 ≤ m) ↔ ((gt l k).1 = 9 ∧ k + 3 ≤ m + 1) := by
          constructor
          · exact fun h => ⟨h.1, by omega⟩
          · rintro ⟨c1, c2⟩
            exact ⟨c1, by omega⟩
        simp only [this]
    · rw [if_neg (fun e => h10 ((gt_op_low m 10 (by decide)).1 e)), ih]
      have : ((gt l k).1 = 9 ∧ k + 3 ≤ m) ↔ ((gt l k).1 = 9 ∧ k + 3 ≤ m + 1) := by
        constructor
        · exact fun h => ⟨h.1, by omega⟩
        · rintro ⟨c1, c2⟩
          refine ⟨c1, ?_⟩
          have := h.lock k (gd_lt c1 (by decide)) c1
          by_cases e : k + 2 = m
          · rw [e] at this; omega
          · omega
      simp only [this]
theorem gd_marks {l : List In} (h : Gd l) : markB (l ++ [E0]) = true := by
  refine allN_iff.2 (fun i hi => ?_)
  rw [List.length_append] at hi
  simp at hi
  by_cases h11 : (gt l i).1 = 11
  · have hi' := gd_lt h11 (by decide)
    have e1 : scL (l ++ [E0]) i = List.replicate 24 0 := by rw [scL_low]; exact scL_zero.2 (fun f _ => h.mark f i hi' h11)
    have e2 : betw (pairL (l ++ [E0])) i = false := by
      refine anyN_no.2 (fun k hk => ?_)
      have hlen : (pairL (l ++ [E0])).length = l.length + 1 := by unfold pairL; rw [outO_len]; simp
      rw [hlen] at hk
      have ho : (pairL (l ++ [E0])).getD k 0 = if (gt l k).1 = 9 ∧ k + 3 ≤ l.length + 1 then (k : Int) + 2 else 0 := by
        unfold pairL
        rw [List.length_append]
        exact gd_out h (l.length + 1) (Nat.le_refl _) k hk
      rw [ho]
      by_cases h9 : (gt l k).1 = 9 ∧ k + 3 ≤ l.length + 1
      · rw [if_pos h9]
        have := h.lock k (gd_lt h9.1 (by decide)) h9.1
        by_cases e : i = k + 1
        · subst e; omega
        · by_cases hki : k < i
          · have : ¬ (i : Int) < (k : Int) + 2 := by omega
            simp [this]
          · simp [hki]
      · rw [if_neg h9]
        have : ¬ (i : Int) < 0 := by omega
        simp [this]
    rw [e1, e2]
    simp
  · have : ((gt (l ++ [E0]) i).1 == 11) = false := by
      rw [beq_eq_false_iff_ne]
      exact fun e => h11 ((gt_op_low i 11 (by decide)).1 e)
    rw [this]
    rfl
theorem gd_may {l : List In} (h : Gd l) (hl : l.length ≤ 23) : okB (l ++ [E0]) = true := by
  unfold okB
  rw [gd_row h hl, gd_nest h, gd_shal h, gd_ok h, gd_marks h]
  rfl
end Go.Proofs.Ytonholadabebbaa

namespace Go.Proofs.Ytonholadabebbaa

structure PInv (l : List In) (n : Nat) (o : List Nat) (U : List Int) : Prop where
  c1 : ∀ i, U.getD i 0 ≠ 0 → (gt l i).1 = 9 ∧ ∃ j : Nat, U.getD i 0 = (j : Int) ∧ i < j ∧ j < n ∧ (gt l j).1 = 10 ∧ (gt l j).2.1 = (gt l i).2.1
  c2 : ∀ i, i < n → (gt l i).1 = 9 → i ∈ o ∨ U.getD i 0 ≠ 0
  c3 : ∀ k i, k < i → U.getD k 0 ≠ 0 → U.getD i 0 ≠ 0 → (i : Int) < U.getD k 0 → U.getD i 0 < U.getD k 0 ∧ (gt l k).2.1 ≠ (gt l i).2.1
  c4 : ∀ k ∈ o, ∀ i, k < i → U.getD i 0 ≠ 0 → (gt l k).2.1 ≠ (gt l i).2.1
  c5 : ∀ k, U.getD k 0 ≠ 0 → ∀ i ∈ o, k < i → U.getD k 0 < (i : Int)

theorem last_or (o : List Nat) : o = [] ∨ ∃ o1 k, o = o1 ++ [k] := by
  rcases List.eq_nil_or_concat o with h | ⟨a, b, h⟩
  · exact .inl h
  · exact .inr ⟨a, b, by simpa using h⟩
theorem held_before {l : List In} {n j : Nat} {o1 : List Nat} (h : Held l n (o1 ++ [j])) : ∀ i ∈ o1, i < j ∧ (gt l i).2.1 ≠ (gt l j).2.1 := by
  intro i hi
  have hle := h.le
  rw [List.length_append] at hle
  match o1, hi with
  | [y], hi =>
    simp at hi
    subst hi
    have := h.ne i j rfl
    exact ⟨this.2, this.1⟩
  | y :: z :: r, _ => simp at hle
theorem getD_set {U : List Int} {j : Nat} {v : Int} (hj : j < U.length) (i : Nat) : (U.set j v).getD i 0 = if i = j then v else U.getD i 0 := by
  by_cases e : i = j
  · subst e
    rw [if_pos rfl, List.getD_eq_getElem?_getD, List.getElem?_set_self hj]
    rfl
  · rw [if_neg e, List.getD_eq_getElem?_getD, List.getElem?_set_ne (fun h => e h.symm), ← List.getD_eq_getElem?_getD]
theorem step_cases {l : List In} {n : Nat} {o o' : List Nat} (h : stepO l n o = some o') :
    ((gt l n).1 = 9 ∧ o' = o ++ [n] ∧ o.any (fun k => (gt l k).2.1 == (gt l n).2.1) = false ∧ o.length ≤ 1) ∨
    ((gt l n).1 = 10 ∧ ∃ j, o = o' ++ [j] ∧ (gt l j).2.1 = (gt l n).2.1 ∧ scL l j = scL l n) ∨
    ((gt l n).1 ≠ 9 ∧ (gt l n).1 ≠ 10 ∧ o' = o) := by
  unfold stepO at h
  split at h
  · rename_i h9
    split at h
    · cases h
    · rename_i hn
      simp only [Option.some.injEq] at h
      have hn' : (o.any (fun k => (gt l k).2.1 == (gt l n).2.1) || decide (2 ≤ o.length)) = false := by simpa using hn
      rw [Bool.or_eq_false_iff] at hn'
      exact .inl ⟨h9, h.symm, hn'.1, by have := hn'.2; simp at this; omega⟩
  · rename_i h9
    split at h
    · rename_i h10
      right; left
      rcases last_or o with rfl | ⟨o1, j, rfl⟩
      · simp at h
      · simp only [List.getLast?_concat, List.dropLast_concat] at h
        split at h
        · rename_i hc
          simp only [Option.some.injEq] at h
          subst h
          exact ⟨h10, j, rfl, hc.1, hc.2⟩
        · cases h
    · rename_i h10
      simp only [Option.some.injEq] at h
      exact .inr (.inr ⟨h9, h10, h.symm⟩)
theorem out_un' {l : List In} {k j : Nat} {o1 : List Nat} (h : (gt l k).1 = 10) (hr : runO l k = some (o1 ++ [j])) : outO l (k + 1) = (outO l k).set j k := by
  show (if (gt l k).1 = 10 then (match (runO l k).bind (·.getLast?) with | some k' => (outO l k).set k' (k : Int) | none => outO l k) else outO l k) = _
  rw [if_pos h, hr]
  simp only [Option.bind_some, List.getLast?_concat]
theorem out_other' {l : List In} {k : Nat} (h : (gt l k).1 ≠ 10) : outO l (k + 1) = outO l k := by
  show (if (gt l k).1 = 10 then _ else _) = _
  rw [if_neg h]
theorem rep_zero (n i : Nat) : (List.replicate n (0 : Int)).getD i 0 = 0 := by
  simp [List.getD_eq_getElem?_getD, List.getElem?_replicate]
  split <;> rfl
theorem pinv (l : List In) : ∀ n o, n ≤ l.length → runO l n = some o → PInv l n o (outO l n)
  | 0, o, _, h => by
    have e : ∀ i, (outO l 0).getD i 0 = 0 := fun i => rep_zero _ _
    exact ⟨fun i hi => absurd (e i) hi, fun i hi => by omega, fun k i _ hk => absurd (e k) hk, fun k _ i _ hi => absurd (e i) hi, fun k hk => absurd (e k) hk⟩
  | n + 1, o', hn, h => by
    obtain ⟨o, hr, hs⟩ := runO_succ h
    have ih := pinv l n o (by omega) hr
    have hd := runO_held l n o hr
    rcases step_cases hs with ⟨h9, rfl, hany, _⟩ | ⟨h10, j, rfl, hA, _⟩ | ⟨h9, h10, rfl⟩
    · rw [out_other' (by omega)]
      refine ⟨fun i hi => ?_, fun i hi h9' => ?_, ih.c3, fun k hk i hki hi => ?_, fun k hk i hi hki => ?_⟩
      · obtain ⟨a, j, b, c, d, e⟩ := ih.c1 i hi
        exact ⟨a, j, b, c, by omega, e⟩
      · by_cases e : i = n
        · subst e; exact .inl (by simp)
        · rcases ih.c2 i (by omega) h9' with h | h
          · exact .inl (by simp [h])
          · exact .inr h
      · rcases List.mem_append.1 hk with hk | hk
        · exact ih.c4 k hk i hki hi
        · simp at hk
          subst hk
          obtain ⟨_, j, _, c, d, _⟩ := ih.c1 i hi
          omega
      · rcases List.mem_append.1 hi with hi | hi
        · exact ih.c5 k hk i hi hki
        · simp at hi
          subst hi
          obtain ⟨_, j, b, c, d, _⟩ := ih.c1 k hk
          omega
    · have hj : j < n := hd.lt j (by simp)
      have hlen : j < (outO l n).length := by rw [outO_len]; omega
      have hb := held_before hd
      rw [out_un' h10 hr]
      have g := getD_set (v := (n : Int)) hlen
      refine ⟨fun i hi => ?_, fun i hi h9' => ?_, fun k i hki hk hi hlt => ?_, fun k hk i hki hi => ?_, fun k hk i hi hki => ?_⟩
      · rw [g] at hi ⊢
        by_cases e : i = j
        · subst e
          rw [if_pos rfl]
          exact ⟨hd.op i (by simp), n, rfl, hj, by omega, h10, hA.symm⟩
        · rw [if_neg e] at hi ⊢
          obtain ⟨a, j', b, c, d, e⟩ := ih.c1 i hi
          exact ⟨a, j', b, c, by omega, e⟩
      · rw [g]
        by_cases e : i = j
        · rw [if_pos e]; right; omega
        · rw [if_neg e]
          have : i ≠ n := by rintro rfl; omega
          rcases ih.c2 i (by omega) h9' with h | h
          · rcases List.mem_append.1 h with h | h
            · exact .inl h
            · simp at h; exact absurd h e
          · exact .inr h
      · rw [g] at hk hlt ⊢
        rw [g] at hi ⊢
        by_cases ek : k = j
        · subst ek
          have ei : i ≠ k := by omega
          rw [if_pos rfl, if_neg ei] at *
          obtain ⟨_, j', b, c, d, _⟩ := ih.c1 i hi
          exact ⟨by omega, ih.c4 k (by simp) i hki hi⟩
        · rw [if_neg ek] at *
          by_cases ei : i = j
          · subst ei
            have := ih.c5 k hk i (by simp) hki
            omega
          · rw [if_neg ei] at *
            exact ih.c3 k i hki hk hi hlt
      · rw [g] at hi
        by_cases ei : i = j
        · subst ei; exact (hb k hk).2
        · rw [if_neg ei] at hi
          exact ih.c4 k (by simp [hk]) i hki hi
      · rw [g] at hk ⊢
        by_cases ek : k = j
        · subst ek
          have := (hb i hi).1
          omega
        · rw [if_neg ek] at *
          exact ih.c5 k hk i (by simp [hi]) hki
    · rw [out_other' h10]
      refine ⟨fun i hi => ?_, fun i hi h9' => ?_, ih.c3, ih.c4, ih.c5⟩
      · obtain ⟨a, j, b, c, d, e⟩ := ih.c1 i hi
        exact ⟨a, j, b, c, by omega, e⟩
      · exact ih.c2 i (by have : i ≠ n := by rintro rfl; exact h9 h9'
                          omega) h9'
theorem pcnt (l : List In) : ∀ n o, runO l n = some o → cntN n (fun i => (gt l i).1 == 10) + o.length = cntN n (fun i => (gt l i).1 == 9)
  | 0, o, h => by simp [runO] at h; subst h; rfl
  | n + 1, o', h => by
    obtain ⟨o, hr, hs⟩ := runO_succ h
    have ih := pcnt l n o hr
    rcases step_cases hs with ⟨h9, rfl, _, _⟩ | ⟨h10, j, rfl, _, _⟩ | ⟨h9, h10, rfl⟩
    · rw [cntN_no (by simp [h9]), cntN_yes (by simp [h9]), List.length_append, ← ih]
      simp
      omega
    · rw [List.length_append] at ih
      rw [cntN_yes (by simp [h10]), cntN_no (by simp [h10]), ← ih]
      simp
      omega
    · rw [cntN_no (by simp [h10]), cntN_no (by simp [h9])]; exact ih

/-- of a program whose pairs are so -/
structure Prs (l : List In) (U : List Int) : Prop where
  len : U.length = l.length
  none : ∀ i, (gt l i).1 ≠ 9 → U.getD i 0 = 0
  some : ∀ i, i < l.length → (gt l i).1 = 9 → ∃ j : Nat, U.getD i 0 = (j : Int) ∧ i < j ∧ j < l.length ∧ (gt l j).1 = 10 ∧ (gt l j).2.1 = (gt l i).2.1
  nest : ∀ k i, k < i → i < l.length → (gt l k).1 = 9 → (gt l i).1 = 9 → (i : Int) < U.getD k 0 → ¬ U.getD k 0 < U.getD i 0 ∧ (gt l k).2.1 ≠ (gt l i).2.1
  cnt : cntN l.length (fun i => (gt l i).1 == 10) = cntN l.length (fun i => (gt l i).1 == 9)
theorem prs_of {l : List In} (h : okP l = true) : Prs l (pairL l) := by
  unfold okP at h
  have hr : runO l l.length = some [] := of_decide_eq_true h
  have hp := pinv l l.length [] (Nat.le_refl _) hr
  refine ⟨outO_len l _, fun i hi => ?_, fun i hi h9 => ?_, fun k i hki hi h9k h9i hlt => ?_, by have := pcnt l _ _ hr; simpa using this⟩
  · apply Decidable.byContradiction
    intro hn
    exact hi (hp.c1 i hn).1
  · rcases hp.c2 i hi h9 with h | h
    · simp at h
    · exact (hp.c1 i h).2
  · have hi0 : (pairL l).getD i 0 ≠ 0 := by
      rcases hp.c2 i hi h9i with h | h
      · simp at h
      · exact h
    have hk0 : (pairL l).getD k 0 ≠ 0 := by
      rcases hp.c2 k (by omega) h9k with h | h
      · simp at h
      · exact h
    have := hp.c3 k i hki hk0 hi0 hlt
    exact ⟨by have h1 := this.1; unfold pairL; omega, this.2⟩
end Go.Proofs.Ytonholadabebbaa

namespace Go.Proofs.Ytonholadabebbaa

def isAr (l : List In) (f : Nat) : Bool := (gt l f).1 == 7 || (gt l f).1 == 8
/-- whose bodies and reaches there are, among the first k -/
def arI (l : List In) (k : Nat) : List Nat := (List.range k).filter (isAr l)
abbrev Ar := Int × Int × Int × Bool
def arE (l : List In) (f : Nat) : Ar := ((f : Int) + 1, (f : Int) + reachI (gt l f), (f : Int), (gt l f).1 == 8)
def arL (l : List In) (k : Nat) : List Ar := (arI l k).map (arE l)
theorem arI_yes {l : List In} {k : Nat} (h : isAr l k = true) : arI l (k + 1) = arI l k ++ [k] := by simp [arI, List.range_succ, List.filter_append, h]
theorem arI_no {l : List In} {k : Nat} (h : isAr l k = false) : arI l (k + 1) = arI l k := by simp [arI, List.range_succ, List.filter_append, h]
theorem arL_yes {l : List In} {k : Nat} (h : isAr l k = true) : arL l (k + 1) = arL l k ++ [arE l k] := by simp [arL, arI_yes h]
theorem arL_no {l : List In} {k : Nat} (h : isAr l k = false) : arL l (k + 1) = arL l k := by simp [arL, arI_no h]
theorem arL_len (l : List In) (k : Nat) : (arL l k).length = (arI l k).length := by simp [arL]
theorem arI_le (l : List In) (k : Nat) : (arI l k).length ≤ k := by have := List.length_filter_le (isAr l) (List.range k); simpa [arI] using this
theorem arI_mem {l : List In} {k f : Nat} : f ∈ arI l k ↔ f < k ∧ isAr l f = true := by simp [arI]
theorem arI_nodup (l : List In) (k : Nat) : (arI l k).Nodup := (List.nodup_range).sublist List.filter_sublist
theorem isAr_no {l : List In} {f : Nat} (h : isAr l f = false) : rch (gt l f) = 0 := by
  unfold isAr at h
  simp at h
  exact rch_op h.1 h.2
theorem isAr_lt {l : List In} {f : Nat} (h : isAr l f = true) : f < l.length := by
  apply Decidable.byContradiction
  intro hn
  rw [isAr, gt_out (by omega)] at h
  exact absurd h (by decide)
/-- an area has i -/
theorem has_iff {l : List In} (ha : l.all mayB = true) (f i : Nat) : (decide ((f : Int) + 1 ≤ (i : Int)) && decide ((i : Int) ≤ (f : Int) + reachI (gt l f))) = inA l f i := by
  have := rch_eq (all_gt ha f)
  rw [Bool.eq_iff_iff, inA_iff]
  simp
  omega
theorem inA_ar {l : List In} {f i : Nat} (h : inA l f i = true) : f ∈ arI l l.length := by
  have : isAr l f = true := by
    cases hh : isAr l f with
    | true => rfl
    | false => rw [inA_none (isAr_no hh)] at h; cases h
  exact arI_mem.2 ⟨isAr_lt this, this⟩
theorem scope_iff {l : List In} (hl : l.length ≤ 24) {k i : Nat} : scL l k = scL l i ↔ ∀ f ∈ arI l l.length, inA l f k = inA l f i := by
  rw [scL_eq]
  constructor
  · intro h f hf
    have := (arI_mem.1 hf).1
    exact h f (by omega)
  · intro h f _
    by_cases hf : f ∈ arI l l.length
    · exact h f hf
    · have e : ∀ j, inA l f j = false := fun j => by
        rw [Bool.eq_false_iff]
        exact fun hh => hf (inA_ar hh)
      rw [e, e]

def nestR (l : List In) : Prop := (∀ f ∈ arI l l.length, f + rch (gt l f) + 1 < l.length) ∧ ∀ f ∈ arI l l.length, ∀ g ∈ arI l l.length, inA l f g = true → g + rch (gt l g) ≤ f + rch (gt l f)
theorem clos_iff' {l : List In} : closB l = true ↔ ∀ i, i < l.length → (i : Int) + reachI (gt l i) < l.length := by simp [closB, allN_iff]
theorem gt_ahd {l : List In} {i : Nat} (h : i + 1 < l.length) : gt (ahd l) i = gt l i := by
  unfold gt ahd
  simp [List.getD_eq_getElem?_getD, List.getElem?_take]
  rw [if_pos (by omega)]
theorem nest_iff {l : List In} (h1 : 1 ≤ l.length) (ha : l.all mayB = true) (he : (gt l (l.length - 1)).1 = 0) : nestB l = true ↔ nestR l := by
  have hlen : (ahd l).length = l.length - 1 := by simp [ahd]
  have hr : ∀ i, (rch (gt l i) : Int) = reachI (gt l i) := fun i => rch_eq (all_gt ha i)
  have hlast : ∀ f ∈ arI l l.length, f + 1 < l.length := by
    intro f hf
    obtain ⟨a, b⟩ := arI_mem.1 hf
    have : f ≠ l.length - 1 := by
      rintro rfl
      rw [isAr, he] at b
      exact absurd b (by decide)
    omega
  unfold nestB
  rw [Bool.and_eq_true, clos_iff', allN_iff]
  constructor
  · rintro ⟨c1, c2⟩
    have k1 : ∀ f ∈ arI l l.length, f + rch (gt l f) + 1 < l.length := by
      intro f hf
      have hl := hlast f hf
      have := c1 f (by omega)
      rw [gt_ahd hl, hlen] at this
      have := hr f
      omega
    refine ⟨k1, fun f hf g hg hin => ?_⟩
    have hl := hlast f hf
    have hk := k1 f hf
    have hin := inA_iff.1 hin
    have := c2 f (by omega)
    have hl2 : (((ahd l).drop (f + 1)).take (rch (gt l f))).length = rch (gt l f) := by simp [hlen]; omega
    have := clos_iff'.1 this (g - (f + 1)) (by rw [hl2]; omega)
    rw [gt_sub (by omega), hl2, show f + 1 + (g - (f + 1)) = g by omega, gt_ahd (by omega)] at this
    have := hr g
    omega
  · rintro ⟨c1, c2⟩
    refine ⟨fun i hi => ?_, fun f hf => ?_⟩
    · rw [hlen] at hi ⊢
      rw [gt_ahd (by omega), ← hr]
      by_cases hf : isAr l i = true
      · have := c1 i (arI_mem.2 ⟨by omega, hf⟩)
        omega
      · rw [isAr_no (by simpa using hf)]
        omega
    · by_cases hfa : isAr l f = true
      · have hfm := arI_mem.2 ⟨isAr_lt hfa, hfa⟩
        have hk := c1 f hfm
        have hl2 : (((ahd l).drop (f + 1)).take (rch (gt l f))).length = rch (gt l f) := by simp [hlen]; omega
        refine clos_iff'.2 (fun j hj => ?_)
        rw [hl2] at hj ⊢
        rw [gt_sub hj, gt_ahd (by omega), ← hr]
        by_cases hg : isAr l (f + 1 + j) = true
        · have := c2 f hfm _ (arI_mem.2 ⟨isAr_lt hg, hg⟩) (inA_iff.2 (by omega))
          omega
        · rw [isAr_no (by simpa using hg)]
          omega
      · rw [isAr_no (by simpa using hfa)]
        rfl
/-- counting over the row of areas -/
def cntA (l : List In) (k i : Nat) (p : Nat → Bool) : Nat := (((arI l l.length).take k).filter fun f => inA l f i && p f).length
theorem cntA_step {l : List In} {k i : Nat} {p : Nat → Bool} (h : k < (arI l l.length).length) : cntA l (k + 1) i p = cntA l k i p + if (inA l (arI l l.length)[k] i && p (arI l l.length)[k]) = true then 1 else 0 := by
  unfold cntA
  rw [List.take_succ_eq_append_getElem h, List.filter_append, List.length_append]
  congr 1
  by_cases hc : (inA l (arI l l.length)[k] i && p (arI l l.length)[k]) = true
  · rw [if_pos hc]; simp only [List.filter, hc]; rfl
  · have hc' : (inA l (arI l l.length)[k] i && p (arI l l.length)[k]) = false := by simpa using hc
    rw [if_neg hc]; simp only [List.filter, hc']; rfl
theorem cntA_le (l : List In) (k i : Nat) (p : Nat → Bool) : cntA l k i p ≤ k := by
  have := List.length_filter_le (fun f => inA l f i && p f) ((arI l l.length).take k)
  have h2 := List.length_take_le k (arI l l.length)
  unfold cntA
  omega
theorem cntA_all {l : List In} (hl : l.length ≤ 24) (i : Nat) (p : Nat → Bool) : cntA l (arI l l.length).length i p = cntN 24 fun f => inA l f i && p f := by
  unfold cntA cntN
  rw [List.take_length, arI, List.filter_filter]
  have h24 : List.range 24 = List.range l.length ++ (List.range (24 - l.length)).map (l.length + ·) := by
    have := List.range_add (n := l.length) (m := 24 - l.length)
    rw [show l.length + (24 - l.length) = 24 by omega] at this
    exact this
  rw [h24, List.filter_append]
  have e2 : ((List.range (24 - l.length)).map (l.length + ·)).filter (fun f => inA l f i && p f) = [] := by
    rw [List.filter_eq_nil_iff]
    intro f hf hh
    simp at hf
    obtain ⟨a, _, rfl⟩ := hf
    rw [inA_none (rch_out (by omega))] at hh
    cases hh
  rw [e2, List.append_nil]
  congr 1
  apply List.filter_congr
  intro f _
  cases hh : isAr l f with
  | true => simp
  | false => rw [inA_none (isAr_no hh)]; rfl
theorem body_cnt {l : List In} (hl : l.length ≤ 24) (i : Nat) : cntA l (arI l l.length).length i (fun f => (gt l f).1 == 8) = bodN l i 24 := cntA_all hl i _
theorem all_cnt {l : List In} (hl : l.length ≤ 24) (i : Nat) : cntA l (arI l l.length).length i (fun _ => true) = 0 ↔ scL l i = List.replicate 24 0 := by
  rw [cntA_all hl, scL_zero]
  unfold cntN
  rw [List.length_eq_zero_iff, List.filter_eq_nil_iff]
  simp
def heldN (l : List In) (U : List Int) (i k : Nat) : Nat := cntN k fun j => (gt l j).1 == 9 && (decide (j < i) && decide ((i : Int) < U.getD j 0))
theorem held_iff {l : List In} {i : Nat} (h : Prs l (pairL l)) : heldN l (pairL l) i l.length = 0 ↔ betw (pairL l) i = false := by
  unfold heldN cntN betw
  rw [anyN_no, List.length_eq_zero_iff, List.filter_eq_nil_iff, h.len]
  constructor
  · intro hh k hk
    have := hh k (by simpa using hk)
    by_cases h9 : (gt l k).1 = 9
    · simpa [h9] using this
    · rw [h.none k h9]
      have : ¬ (i : Int) < 0 := by omega
      simp [this]
  · intro hh k hk
    rw [hh k (by simpa using hk)]
    simp
end Go.Proofs.Ytonholadabebbaa

namespace Go.Proofs.Ytonholadabebbaa

/-- a program that may be, in the words of its areas -/
structure Prg (l : List In) : Prop where
  row : rowB l = true
  nest : nestR l
  shal : ∀ i, i < l.length → bodN l i 24 ≤ 2
  pair : okP l = true
  mark : ∀ i, i < l.length → (gt l i).1 = 11 → (∀ f, f < 24 → inA l f i = false) ∧ betw (pairL l) i = false
theorem Prg.le {l : List In} (h : Prg l) : 1 ≤ l.length ∧ l.length ≤ 24 := by
  have := h.row
  unfold rowB at this
  simp only [Bool.and_eq_true, decide_eq_true_eq] at this
  exact this.1
theorem Prg.ins {l : List In} (h : Prg l) (i : Nat) (hi : i < l.length) : mayB (gt l i) = true ∧ ((gt l i).1 = 0 ↔ i + 1 = l.length) := by
  have := h.row
  unfold rowB at this
  simp only [Bool.and_eq_true, decide_eq_true_eq, allN_iff] at this
  obtain ⟨h1, h2⟩ := this.2 i hi
  refine ⟨h1, ?_⟩
  have h3 : ((gt l i).1 == 0) = decide (i + 1 = l.length) := by simpa using h2
  rw [Bool.eq_iff_iff] at h3
  simpa using h3
theorem Prg.all {l : List In} (h : Prg l) : l.all mayB = true := by
  rw [List.all_eq_true]
  intro x hx
  obtain ⟨i, hi, rfl⟩ := List.mem_iff_getElem.1 hx
  have := (h.ins i hi).1
  rwa [gt_eq hi] at this
theorem prg_of {l : List In} (h : okB l = true) : Prg l := by
  unfold okB at h
  simp only [Bool.and_eq_true] at h
  obtain ⟨⟨⟨⟨h1, h2⟩, h3⟩, h4⟩, h5⟩ := h
  have hr := h1
  unfold rowB at hr
  simp only [Bool.and_eq_true, decide_eq_true_eq, allN_iff] at hr
  have hall : l.all mayB = true := by
    rw [List.all_eq_true]
    intro x hx
    obtain ⟨i, hi, rfl⟩ := List.mem_iff_getElem.1 hx
    have := (hr.2 i hi).1
    rwa [gt_eq hi] at this
  have hend : (gt l (l.length - 1)).1 = 0 := by
    have h6 := (hr.2 (l.length - 1) (by omega)).2
    have h7 : ((gt l (l.length - 1)).1 == 0) = decide (l.length - 1 + 1 = l.length) := by simpa using h6
    rw [decide_eq_true (by omega)] at h7
    simpa using h7
  refine ⟨h1, (nest_iff hr.1.1 hall hend).1 h2, fun i hi => of_decide_eq_true (allN_iff.1 h3 i hi), h4, fun i hi h11 => ?_⟩
  have h8 := allN_iff.1 h5 i hi
  rw [h11] at h8
  have h9 : (decide (scL l i ≠ List.replicate 24 0) || betw (pairL l) i) = false := by
    cases hh : (decide (scL l i ≠ List.replicate 24 0) || betw (pairL l) i) with
    | true => rw [hh] at h8; simp at h8
    | false => rfl
  rw [Bool.or_eq_false_iff] at h9
  refine ⟨scL_zero.1 ?_, h9.2⟩
  apply Decidable.byContradiction
  intro hn
  have := h9.1
  rw [decide_eq_true (p := scL l i ≠ List.replicate 24 0) hn] at this
  cases this

/-- what is held ahead of instruction i -/
def opn (l : List In) (i : Nat) : List Nat := (runO l i).getD []
theorem opn_run {l : List In} (h : okP l = true) {i : Nat} (hi : i ≤ l.length) : runO l i = some (opn l i) := by
  cases hr : runO l i with
  | some o => simp [opn, hr]
  | none =>
    have := runO_none hr l.length hi
    unfold okP at h
    have h2 : runO l l.length = some [] := of_decide_eq_true h
    rw [this] at h2
    cases h2
theorem opn_step {l : List In} (h : okP l = true) {i : Nat} (hi : i < l.length) : stepO l i (opn l i) = some (opn l (i + 1)) := by
  have h1 := opn_run h (Nat.le_of_lt hi)
  have h2 := opn_run h (show i + 1 ≤ l.length from hi)
  have h3 : runO l (i + 1) = stepO l i (opn l i) := by
    show (runO l i).bind _ = _
    rw [h1]
    rfl
  rw [← h3, h2]
theorem opn_end {l : List In} (h : okP l = true) : opn l l.length = [] := by
  have h2 : runO l l.length = some [] := of_decide_eq_true h
  simp [opn, h2]
theorem opn_held {l : List In} (h : okP l = true) {i : Nat} (hi : i ≤ l.length) : Held l i (opn l i) := runO_held l i _ (opn_run h hi)
theorem same_in {l : List In} {k j f : Nat} (h : scL l k = scL l j) (hf : f < 24) : inA l f k = inA l f j := scL_eq.1 h f hf

theorem opn_in {l : List In} (h : okP l = true) (hl : l.length ≤ 24) {f : Nat} (hf : f + rch (gt l f) < l.length) : ∀ j, f + 1 ≤ j → j ≤ f + rch (gt l f) + 1 → ∃ ex, opn l j = opn l (f + 1) ++ ex ∧ ∀ k ∈ ex, f + 1 ≤ k ∧ k < j
  | 0, h1, _ => by omega
  | j + 1, h1, h2 => by
    by_cases e : f + 1 = j + 1
    · rw [e]; exact ⟨[], by simp, by simp⟩
    · obtain ⟨ex, he, hk⟩ := opn_in h hl hf j (by omega) (by omega)
      have hj : j < l.length := by omega
      have hs := opn_step h hj
      rcases step_cases hs with ⟨h9, ho, _, _⟩ | ⟨h10, k, ho, hA, hsc⟩ | ⟨h9, h10, ho⟩
      · refine ⟨ex ++ [j], by rw [ho, he, List.append_assoc], fun x hx => ?_⟩
        rcases List.mem_append.1 hx with hx | hx
        · have := hk x hx; omega
        · simp at hx; omega
      · have hin : inA l f j = true := inA_iff.2 (by omega)
        rw [← same_in hsc (by omega)] at hin
        have hin := inA_iff.1 hin
        rcases last_or ex with rfl | ⟨ex1, k1, rfl⟩
        · rw [List.append_nil] at he
          have hm : k ∈ opn l (f + 1) := by rw [← he, ho]; simp
          have := (opn_held h (show f + 1 ≤ l.length by omega)).lt k hm
          omega
        · rw [ho, ← List.append_assoc] at he
          have h3 := List.append_inj' he rfl
          refine ⟨ex1, h3.1, fun x hx => ?_⟩
          have := hk x (by simp [hx])
          omega
      · exact ⟨ex, by rw [ho, he], fun x hx => by have := hk x hx; omega⟩
theorem opn_out {l : List In} (h : okP l = true) (hl : l.length ≤ 24) {f : Nat} (hf : f + rch (gt l f) < l.length) {e0 : Nat} {pre : List Nat} (h0 : opn l (f + rch (gt l f) + 1) = pre ++ [e0]) (he0 : f + 1 ≤ e0) (he1 : e0 ≤ f + rch (gt l f)) :
    ∀ j, f + rch (gt l f) + 1 ≤ j → j ≤ l.length → ∃ more, opn l j = pre ++ [e0] ++ more
  | 0, h1, _ => by omega
  | j + 1, h1, h2 => by
    by_cases e : f + rch (gt l f) + 1 = j + 1
    · rw [← e]; exact ⟨[], by simp [h0]⟩
    · obtain ⟨more, he⟩ := opn_out h hl hf h0 he0 he1 j (by omega) (by omega)
      have hj : j < l.length := by omega
      have hs := opn_step h hj
      rcases step_cases hs with ⟨h9, ho, _, _⟩ | ⟨h10, k, ho, hA, hsc⟩ | ⟨h9, h10, ho⟩
      · exact ⟨more ++ [j], by rw [ho, he]; simp⟩
      · rcases last_or more with rfl | ⟨m1, k1, rfl⟩
        · rw [List.append_nil, ho] at he
          have h3 := List.append_inj' he rfl
          have hk : k = e0 := by simpa using h3.2
          subst hk
          have h4 := same_in (f := f) hsc (by omega)
          have h5 : inA l f k = true := inA_iff.2 (by omega)
          have h6 : inA l f j = false := inA_no.2 (by omega)
          rw [h5, h6] at h4
          cases h4
        · rw [ho, ← List.append_assoc] at he
          exact ⟨m1, (List.append_inj' he rfl).1⟩
      · exact ⟨more, by rw [ho, he]⟩
/-- what is held behind a body or a reach is what is held at its beginning -/
theorem opn_area {l : List In} (h : okP l = true) (hl : l.length ≤ 24) {f : Nat} (hf : f + rch (gt l f) < l.length) : opn l (f + rch (gt l f) + 1) = opn l (f + 1) := by
  obtain ⟨ex, he, hk⟩ := opn_in h hl hf (f + rch (gt l f) + 1) (by omega) (Nat.le_refl _)
  rcases last_or ex with rfl | ⟨ex1, e0, rfl⟩
  · simpa using he
  · rw [← List.append_assoc] at he
    have hb := hk e0 (by simp)
    obtain ⟨more, hm⟩ := opn_out h hl hf he hb.1 (by omega) l.length (by omega) (Nat.le_refl _)
    rw [opn_end h] at hm
    simp at hm
end Go.Proofs.Ytonholadabebbaa

namespace Go.Proofs.Ytonholadabebbaa

abbrev Rp := Int × Int × Int
/-- what is left to be repeated (the innermost first), when the machine comes to pc -/
def normR (pc : Int) : List Rp → Int × List Rp
  | [] => (pc, [])
  | x :: r => if x.2.1 < pc then (if 0 < x.2.2 then (x.1, (x.1, x.2.1, x.2.2 - 1) :: r) else normR pc r) else (pc, x :: r)
theorem normR_len (pc : Int) : ∀ R, (normR pc R).2.length ≤ R.length
  | [] => Nat.le_refl _
  | x :: r => by
    unfold normR
    split
    · split
      · simp
      · have := normR_len pc r; simp; omega
    · simp
/-- each is a body around pc, one in the other -/
def Ch (l : List In) (pc : Nat) : Nat → List Rp → Prop
  | _, [] => True
  | ub, r :: R => ∃ f : Nat, f < ub ∧ (gt l f).1 = 8 ∧ r.1 = (f : Int) + 1 ∧ r.2.1 = (f : Int) + rch (gt l f) ∧ 0 ≤ r.2.2 ∧ r.2.2 ≤ 2 ∧ inA l f pc = true ∧ Ch l pc f R
/-- .. or one that ends right ahead of it -/
def Cw (l : List In) (nx : Nat) : Nat → List Rp → Prop
  | _, [] => True
  | ub, r :: R => ∃ f : Nat, f < ub ∧ (gt l f).1 = 8 ∧ r.1 = (f : Int) + 1 ∧ r.2.1 = (f : Int) + rch (gt l f) ∧ 0 ≤ r.2.2 ∧ r.2.2 ≤ 2 ∧ f + 1 ≤ nx ∧ nx ≤ f + rch (gt l f) + 1 ∧ Cw l nx f R
theorem cntN_mono {p : Nat → Bool} {a : Nat} : ∀ {b : Nat}, a ≤ b → cntN a p ≤ cntN b p
  | 0, h => by obtain rfl : a = 0 := by omega
               exact Nat.le_refl _
  | b + 1, h => by
    by_cases e : a = b + 1
    · subst e; exact Nat.le_refl _
    · have ih := cntN_mono (p := p) (a := a) (b := b) (by omega)
      cases hp : p b with
      | true => rw [cntN_yes hp]; omega
      | false => rw [cntN_no hp]; exact ih
theorem ch_len {l : List In} {pc : Nat} : ∀ {R : List Rp} {ub : Nat}, Ch l pc ub R → R.length ≤ cntN ub fun f => inA l f pc && (gt l f).1 == 8
  | [], _, _ => Nat.zero_le _
  | r :: R, ub, h => by
    obtain ⟨f, h1, h2, _, _, _, _, h3, h4⟩ := h
    have ih := ch_len h4
    have hy := cntN_yes (n := f) (p := fun f => inA l f pc && (gt l f).1 == 8) (by simp [h3, h2])
    have hm := cntN_mono (p := fun f => inA l f pc && (gt l f).1 == 8) (show f + 1 ≤ ub from h1)
    simp only [List.length_cons]
    omega
theorem ch_none {l : List In} {pc : Nat} (h : ∀ f, f < 24 → inA l f pc = false) (hl : l.length ≤ 24) {R : List Rp} {ub : Nat} (hc : Ch l pc ub R) : R = [] := by
  cases R with
  | nil => rfl
  | cons r R =>
    obtain ⟨f, h1, h2, _, _, _, _, h3, h4⟩ := hc
    have : f < l.length := by
      apply Decidable.byContradiction
      intro hn
      rw [gt_out (by omega)] at h2
      cases h2
    rw [h f (by omega)] at h3
    cases h3
theorem is_ar {l : List In} {f : Nat} (h : (gt l f).1 = 8 ∨ (gt l f).1 = 7) : f ∈ arI l l.length := by
  have : isAr l f = true := by unfold isAr; rcases h with h | h <;> simp [h]
  exact arI_mem.2 ⟨isAr_lt this, this⟩
theorem rch_pos {l : List In} (hP : Prg l) {f : Nat} (h : f ∈ arI l l.length) : 1 ≤ rch (gt l f) := by
  have hf := arI_mem.1 h
  have hm := may_iff.1 (hP.ins f hf.1).1
  have := rch_eq (hP.ins f hf.1).1
  have h2 := hf.2
  unfold isAr at h2
  unfold reachI at this
  unfold mayP at hm
  simp at h2
  rcases h2 with h2 | h2
  · rw [if_neg (by omega), if_pos h2] at this; omega
  · rw [if_pos h2] at this; omega
/-- f is in f2's body -/
theorem cw_in {l : List In} (hP : Prg l) {f f2 nx : Nat} (hf : f ∈ arI l l.length) (hf2 : f2 ∈ arI l l.length) (h1 : f2 < f) (h2 : f + 1 ≤ nx) (h3 : nx ≤ f2 + rch (gt l f2) + 1) : f + rch (gt l f) ≤ f2 + rch (gt l f2) := hP.nest.2 f2 hf2 f hf (inA_iff.2 (by omega))
theorem cw_back {l : List In} (hP : Prg l) {f nx : Nat} (hf : f ∈ arI l l.length) (h2 : f + 1 ≤ nx) : ∀ {R : List Rp} {ub : Nat}, ub ≤ f → Cw l nx ub R → Ch l (f + 1) ub R
  | [], _, _, _ => trivial
  | r :: R, ub, hu, h => by
    obtain ⟨f2, k1, k2, k3, k4, k5, k6, k7, k8, k9⟩ := h
    have hin := cw_in hP hf (is_ar (.inl k2)) (by omega) h2 k8
    have hp := rch_pos hP hf
    exact ⟨f2, k1, k2, k3, k4, k5, k6, inA_iff.2 (by omega), cw_back hP hf h2 (by omega) k9⟩
theorem cw_stay {l : List In} (hP : Prg l) {f nx : Nat} (hf : f ∈ arI l l.length) (h2 : f + 1 ≤ nx) (h3 : nx ≤ f + rch (gt l f)) : ∀ {R : List Rp} {ub : Nat}, ub ≤ f → Cw l nx ub R → Ch l nx ub R
  | [], _, _, _ => trivial
  | r :: R, ub, hu, h => by
    obtain ⟨f2, k1, k2, k3, k4, k5, k6, k7, k8, k9⟩ := h
    have hin := cw_in hP hf (is_ar (.inl k2)) (by omega) h2 k8
    exact ⟨f2, k1, k2, k3, k4, k5, k6, inA_iff.2 (by omega), cw_stay hP hf h2 h3 (by omega) k9⟩
theorem norm_ok {l : List In} (hP : Prg l) {nx : Nat} (hn : nx < l.length) : ∀ {R : List Rp} {ub : Nat}, ub ≤ nx → Cw l nx ub R →
    ∃ pc : Nat, (normR nx R).1 = (pc : Int) ∧ pc < l.length ∧ Ch l pc pc (normR nx R).2 ∧ opn l pc = opn l nx
  | [], _, _, _ => ⟨nx, rfl, hn, trivial, rfl⟩
  | r :: R, ub, hu, h => by
    obtain ⟨f, k1, k2, k3, k4, k5, k6, k7, k8, k9⟩ := h
    have hf := is_ar (.inl k2)
    have hp := rch_pos hP hf
    have hle := hP.le
    have har := hP.nest.1 f hf
    unfold normR
    by_cases c1 : r.2.1 < (nx : Int)
    · rw [if_pos c1]
      have hnx : nx = f + rch (gt l f) + 1 := by omega
      by_cases c2 : 0 < r.2.2
      · rw [if_pos c2]
        refine ⟨f + 1, by rw [k3]; rfl, by omega, ⟨f, by omega, k2, k3, k4, by simp only; omega, by simp only; omega, inA_iff.2 (by omega), cw_back hP hf k7 (Nat.le_refl _) k9⟩, ?_⟩
        rw [hnx]
        exact (opn_area hP.pair hle.2 (by omega)).symm
      · rw [if_neg c2]
        exact norm_ok hP hn (by omega) k9
    · rw [if_neg c1]
      exact ⟨nx, rfl, hn, ⟨f, by omega, k2, k3, k4, k5, k6, inA_iff.2 (by omega), cw_stay hP hf k7 (by omega) (Nat.le_refl _) k9⟩, rfl⟩
/-- one further, or behind a reach -/
theorem ch_next {l : List In} (hP : Prg l) {pc nx : Nat} (hpc : pc < l.length) (hnx : nx = pc + 1 ∨ nx = pc + rch (gt l pc) + 1) : ∀ {R : List Rp} {ub : Nat}, ub ≤ pc → Ch l pc ub R → Cw l nx ub R
  | [], _, _, _ => trivial
  | r :: R, ub, hu, h => by
    obtain ⟨f, k1, k2, k3, k4, k5, k6, k7, k8⟩ := h
    have hin := inA_iff.1 k7
    refine ⟨f, k1, k2, k3, k4, k5, k6, by omega, ?_, ch_next hP hpc hnx (by omega) k8⟩
    rcases hnx with rfl | rfl
    · omega
    · by_cases ha : isAr l pc = true
      · have := hP.nest.2 f (is_ar (.inl k2)) pc (arI_mem.2 ⟨hpc, ha⟩) k7
        omega
      · rw [isAr_no (by simpa using ha)]
        omega
def phi (n pc : Int) : List Rp → Int
  | [] => 9 * (n - pc)
  | [a] => 9 * (n - (a.2.1 + 1)) + 3 * (a.2.2 * (a.2.1 - a.1 + 1) + (a.2.1 + 1 - pc))
  | b :: a :: _ => 9 * (n - (a.2.1 + 1)) + 3 * (a.2.2 * (a.2.1 - a.1 + 1) + (a.2.1 - b.2.1)) + (b.2.2 * (b.2.1 - b.1 + 1) + (b.2.1 + 1 - pc))
theorem mul_one_less (a b : Int) : (a - 1) * b = a * b - b := by rw [Int.sub_mul, Int.one_mul]
theorem phi_norm {l : List In} (n : Int) {nx ub : Nat} {R : List Rp} (h : Cw l nx ub R) (hl : R.length ≤ 2) : phi n (normR nx R).1 (normR nx R).2 = phi n nx R := by
  match R, h, hl with
  | [], _, _ => rfl
  | [a], h, _ =>
    obtain ⟨f, k1, k2, k3, k4, k5, k6, k7, k8, k9⟩ := h
    unfold normR
    by_cases c1 : a.2.1 < (nx : Int)
    · rw [if_pos c1]
      have hx : (nx : Int) = a.2.1 + 1 := by omega
      by_cases c2 : 0 < a.2.2
      · rw [if_pos c2]
        simp only [phi, mul_one_less, hx]
        omega
      · rw [if_neg c2]
        have : a.2.2 = 0 := by omega
        simp only [normR, phi, hx, this]
        omega
    · rw [if_neg c1]
  | [b, a], h, _ =>
    obtain ⟨f, k1, k2, k3, k4, k5, k6, k7, k8, k9⟩ := h
    obtain ⟨g, q1, q2, q3, q4, q5, q6, q7, q8, q9⟩ := k9
    unfold normR
    by_cases c1 : b.2.1 < (nx : Int)
    · rw [if_pos c1]
      have hx : (nx : Int) = b.2.1 + 1 := by omega
      by_cases c2 : 0 < b.2.2
      · rw [if_pos c2]
        simp only [phi, mul_one_less, hx]
        omega
      · rw [if_neg c2]
        have hb : b.2.2 = 0 := by omega
        have e0 : phi n nx [b, a] = phi n nx [a] := by
          simp only [phi, hx, hb]
          omega
        rw [e0]
        unfold normR
        by_cases c3 : a.2.1 < (nx : Int)
        · rw [if_pos c3]
          have hx2 : (nx : Int) = a.2.1 + 1 := by omega
          by_cases c4 : 0 < a.2.2
          · rw [if_pos c4]
            simp only [phi, mul_one_less, hx2]
            omega
          · rw [if_neg c4]
            have : a.2.2 = 0 := by omega
            simp only [normR, phi, hx2, this]
            omega
        · rw [if_neg c3]
    · rw [if_neg c1]
theorem phi_less (n : Int) {pc nx : Int} (h : pc < nx) : ∀ R : List Rp, phi n nx R + 1 ≤ phi n pc R
  | [] => by simp only [phi]; omega
  | [a] => by simp only [phi]; omega
  | b :: a :: r => by simp only [phi]; omega
theorem phi_pos {l : List In} {pc : Nat} (hpc : pc < l.length) (hP : Prg l) : ∀ {R : List Rp}, Ch l pc pc R → R.length ≤ 2 → 1 ≤ phi l.length pc R
  | [], _, _ => by simp only [phi]; omega
  | [a], h, _ => by
    obtain ⟨f, k1, k2, k3, k4, k5, k6, k7, k8⟩ := h
    have hin := inA_iff.1 k7
    have har := hP.nest.1 f (is_ar (.inl k2))
    have : 0 ≤ a.2.2 * (a.2.1 - a.1 + 1) := Int.mul_nonneg k5 (by omega)
    simp only [phi]
    omega
  | [b, a], h, _ => by
    obtain ⟨f, k1, k2, k3, k4, k5, k6, k7, g, q1, q2, q3, q4, q5, q6, q7, q8⟩ := h
    have hin := inA_iff.1 k7
    have hin2 := inA_iff.1 q7
    have har := hP.nest.1 g (is_ar (.inl q2))
    have hn := hP.nest.2 g (is_ar (.inl q2)) f (is_ar (.inl k2)) (inA_iff.2 (by omega))
    have h1 : 0 ≤ a.2.2 * (a.2.1 - a.1 + 1) := Int.mul_nonneg q5 (by omega)
    have h2 : 0 ≤ b.2.2 * (b.2.1 - b.1 + 1) := Int.mul_nonneg k5 (by omega)
    simp only [phi]
    omega
  | _ :: _ :: _ :: _, _, h => by simp at h
theorem body_two {l : List In} (hP : Prg l) {pc : Nat} (hpc : pc < l.length) {R : List Rp} (hC : Ch l pc pc R) : R.length ≤ 2 := by
  have h1 := ch_len hC
  have h2 := hP.shal pc hpc
  have h3 := cntN_mono (p := fun f => inA l f pc && (gt l f).1 == 8) (show pc ≤ 24 by have := hP.le; omega)
  unfold bodN at h2
  omega
/-- One step, whatever it is but an End. -/
theorem mach {l : List In} (hP : Prg l) {pc : Nat} (hpc : pc + 1 < l.length) {R : List Rp} (hC : Ch l pc pc R) {nx : Nat} (hnx : nx = pc + 1 ∨ (gt l pc).1 = 7 ∧ nx = pc + rch (gt l pc) + 1) :
    ∃ pc' : Nat, (normR nx R).1 = (pc' : Int) ∧ pc' < l.length ∧ Ch l pc' pc' (normR nx R).2 ∧ opn l pc' = opn l (pc + 1) ∧ phi l.length pc' (normR nx R).2 + 1 ≤ phi l.length pc R := by
  have hle := hP.le
  have hn : nx < l.length ∧ pc < nx ∧ opn l nx = opn l (pc + 1) := by
    rcases hnx with rfl | ⟨h7, rfl⟩
    · exact ⟨hpc, by omega, rfl⟩
    · have har := hP.nest.1 pc (is_ar (.inr h7))
      exact ⟨by omega, by omega, opn_area hP.pair hle.2 (by omega)⟩
  have hw := ch_next hP (show pc < l.length by omega) (nx := nx) (by rcases hnx with h | ⟨_, h⟩ <;> omega) (Nat.le_refl _) hC
  obtain ⟨pc', e1, e2, e3, e4⟩ := norm_ok hP hn.1 (by omega) hw
  have hl := body_two hP (show pc < l.length by omega) hC
  have hph := phi_norm (l.length : Int) hw hl
  have hle2 := phi_less (l.length : Int) (show (pc : Int) < (nx : Int) by omega) R
  refine ⟨pc', e1, e2, e3, e4.trans hn.2.2, ?_⟩
  rw [e1] at hph
  omega
/-- A Rep: its body is entered. -/
theorem mach_rep {l : List In} (hP : Prg l) {pc : Nat} (hpc : pc + 1 < l.length) {R : List Rp} (hC : Ch l pc pc R) (h8 : (gt l pc).1 = 8) (hN1 : 1 ≤ (gt l pc).2.2.2) (hN3 : (gt l pc).2.2.2 ≤ 3) :
    normR ((pc + 1 : Nat) : Int) (((pc : Int) + 1, (pc : Int) + (rch (gt l pc) : Int), (gt l pc).2.2.2 - 1) :: R) = (((pc + 1 : Nat) : Int), ((pc : Int) + 1, (pc : Int) + (rch (gt l pc) : Int), (gt l pc).2.2.2 - 1) :: R) ∧
    Ch l (pc + 1) (pc + 1) (((pc : Int) + 1, (pc : Int) + (rch (gt l pc) : Int), (gt l pc).2.2.2 - 1) :: R) ∧ phi l.length ((pc + 1 : Nat) : Int) (((pc : Int) + 1, (pc : Int) + (rch (gt l pc) : Int), (gt l pc).2.2.2 - 1) :: R) + 1 ≤ phi l.length pc R := by
  have hf := is_ar (l := l) (.inl h8)
  have hp := rch_pos hP hf
  have har := hP.nest.1 pc hf
  have hw := ch_next hP (show pc < l.length by omega) (nx := pc + 1) (.inl rfl) (Nat.le_refl _) hC
  have hCt : Ch l (pc + 1) pc R := cw_stay hP hf (Nat.le_refl _) (by omega) (Nat.le_refl _) hw
  have hCh : Ch l (pc + 1) (pc + 1) (((pc : Int) + 1, (pc : Int) + (rch (gt l pc) : Int), (gt l pc).2.2.2 - 1) :: R) := ⟨pc, by omega, h8, rfl, rfl, by simp only; omega, by simp only; omega, inA_iff.2 (by omega), hCt⟩
  refine ⟨?_, hCh, ?_⟩
  · unfold normR
    rw [if_neg (by simp only; omega)]
  · have hl := body_two hP hpc hCh
    generalize hN : (gt l pc).2.2.2 = N at *
    generalize hB : rch (gt l pc) = B at *
    have hNB : (N - 1) * ((pc : Int) + B - ((pc : Int) + 1) + 1) = N * B - B := by
      rw [show (pc : Int) + B - ((pc : Int) + 1) + 1 = B by omega, mul_one_less]
    have hNB3 : N * B ≤ 3 * B := Int.mul_le_mul_of_nonneg_right hN3 (by omega)
    match R, hl with
    | [], _ => simp only [phi, hNB]; omega
    | [a], _ => simp only [phi, hNB]; omega
    | b :: a :: r, hl => simp at hl
end Go.Proofs.Ytonholadabebbaa

namespace Go.Proofs.Ytonholadabebbaa

def inB (l : List In) (f i : Nat) : Bool := inA l f i && (gt l f).1 == 8
theorem inB_iff {l : List In} {f i : Nat} : inB l f i = true ↔ (f < i ∧ i ≤ f + rch (gt l f)) ∧ (gt l f).1 = 8 := by simp [inB, inA_iff]
theorem inB_no {l : List In} {f i : Nat} : inB l f i = false ↔ ¬ ((f < i ∧ i ≤ f + rch (gt l f)) ∧ (gt l f).1 = 8) := by rw [← inB_iff]; simp
def nOf (l : List In) (f : Nat) : Nat := (gt l f).2.2.2.toNat
theorem nOf_bd {l : List In} (h : l.all mayB = true) {f : Nat} (h8 : (gt l f).1 = 8) : 1 ≤ nOf l f ∧ nOf l f ≤ 20 ∧ (nOf l f : Int) = (gt l f).2.2.2 := by
  have := may_iff.1 (all_gt h f)
  unfold mayP at this
  unfold nOf
  omega
/-- how often i is done, by the bodies from lo up to k -/
def wtA (l : List In) (lo i : Nat) : Nat → Nat
  | 0 => 1
  | k + 1 => if (decide (lo ≤ k) && inB l k i) = true then wtA l lo i k * nOf l k else wtA l lo i k
def wt (l : List In) (lo i : Nat) : Nat := wtA l lo i i
theorem wtA_yes {l : List In} {lo i k : Nat} (h1 : lo ≤ k) (h2 : inB l k i = true) : wtA l lo i (k + 1) = wtA l lo i k * nOf l k := by
  rw [wtA, if_pos (by simp [h1, h2])]
theorem wtA_no {l : List In} {lo i k : Nat} (h2 : inB l k i = false) : wtA l lo i (k + 1) = wtA l lo i k := by
  rw [wtA, if_neg (by simp [h2])]
theorem wtA_low {l : List In} {lo i : Nat} : ∀ {k : Nat}, k ≤ lo → wtA l lo i k = 1
  | 0, _ => rfl
  | k + 1, h => by
    rw [wtA, if_neg (by simp; omega)]
    exact wtA_low (by omega)
theorem wtA_one {l : List In} {lo i : Nat} : ∀ {k : Nat}, (∀ f, lo ≤ f → f < k → inB l f i = false) → wtA l lo i k = 1
  | 0, _ => rfl
  | k + 1, h => by
    by_cases hl : lo ≤ k
    · rw [wtA_no (h k hl (by omega))]
      exact wtA_one fun f h1 h2 => h f h1 (by omega)
    · exact wtA_low (by omega)
theorem wtA_congr {l : List In} {lo i j : Nat} : ∀ {k : Nat}, (∀ f, lo ≤ f → f < k → inB l f i = inB l f j) → wtA l lo i k = wtA l lo j k
  | 0, _ => rfl
  | k + 1, h => by
    have ih := wtA_congr (k := k) fun f h1 h2 => h f h1 (by omega)
    by_cases hl : lo ≤ k
    · have := h k hl (by omega)
      simp only [wtA, this, ih]
    · rw [wtA_low (by omega), wtA_low (by omega)]
theorem wtA_split {l : List In} {lo i m : Nat} (hm : lo ≤ m) : ∀ {k : Nat}, m ≤ k → wtA l lo i k = wtA l lo i m * wtA l m i k
  | 0, h => by
    obtain rfl : m = 0 := by omega
    simp [wtA]
  | k + 1, h => by
    by_cases e : m = k + 1
    · subst e
      rw [wtA_low (lo := k + 1) (Nat.le_refl _), Nat.mul_one]
    · have ih := wtA_split (l := l) (i := i) hm (k := k) (by omega)
      cases hb : inB l k i with
      | true => rw [wtA_yes (by omega) hb, wtA_yes (by omega) hb, ih, Nat.mul_assoc]
      | false => rw [wtA_no hb, wtA_no hb, ih]
theorem wtA_pos {l : List In} (h : l.all mayB = true) {lo i : Nat} : ∀ {k : Nat}, 1 ≤ wtA l lo i k
  | 0 => Nat.le_refl _
  | k + 1 => by
    have ih := wtA_pos h (lo := lo) (i := i) (k := k)
    rw [wtA]
    split
    · rename_i hc
      simp only [Bool.and_eq_true, decide_eq_true_eq] at hc
      have := (nOf_bd h (inB_iff.1 hc.2).2).1
      exact Nat.mul_pos ih this
    · exact ih
theorem wt_pos {l : List In} (h : l.all mayB = true) {lo i : Nat} : 1 ≤ wt l lo i := wtA_pos h
theorem wt_low {l : List In} {i : Nat} : wt l i i = 1 := wtA_low (Nat.le_refl _)
theorem wt_le {l : List In} (h : l.all mayB = true) {lo i : Nat} (hl : lo ≤ i) : wt l lo i ≤ wt l 0 i := by
  have := wtA_split (l := l) (lo := 0) (i := i) (m := lo) (by omega) hl
  have h1 := wtA_pos h (lo := 0) (i := i) (k := lo)
  unfold wt
  rw [this]
  exact Nat.le_mul_of_pos_left _ h1
theorem wtA_bd {l : List In} (h : l.all mayB = true) {i : Nat} : ∀ {k : Nat}, wtA l 0 i k ≤ 20 ^ cntN k (fun f => inA l f i && (gt l f).1 == 8)
  | 0 => Nat.le_refl _
  | k + 1 => by
    have ih := wtA_bd h (i := i) (k := k)
    cases hb : inB l k i with
    | true =>
      rw [wtA_yes (by omega) hb, cntN_yes (p := fun f => inA l f i && (gt l f).1 == 8) hb, Nat.pow_succ]
      exact Nat.mul_le_mul ih (nOf_bd h (inB_iff.1 hb).2).2.1
    | false => rw [wtA_no hb, cntN_no (p := fun f => inA l f i && (gt l f).1 == 8) hb]; exact ih
/-- the ticks of the instructions from a up to b -/
def smW (l : List In) (lo a : Nat) : Nat → Nat
  | 0 => 0
  | k + 1 => smW l lo a k + wt l lo (a + k)
def Sm (l : List In) (lo a b : Nat) : Nat := smW l lo a (b - a)
theorem Sm_nil (l : List In) (lo a : Nat) : Sm l lo a a = 0 := by unfold Sm; rw [Nat.sub_self]; rfl
theorem Sm_succ {l : List In} {lo a b : Nat} (h : a ≤ b) : Sm l lo a (b + 1) = Sm l lo a b + wt l lo b := by
  unfold Sm
  rw [show b + 1 - a = (b - a) + 1 by omega, smW, show a + (b - a) = b by omega]
theorem Sm_split {l : List In} {lo a m : Nat} (h1 : a ≤ m) : ∀ {b : Nat}, m ≤ b → Sm l lo a b = Sm l lo a m + Sm l lo m b
  | 0, h => by
    obtain rfl : m = 0 := by omega
    rw [Sm_nil]; rfl
  | b + 1, h => by
    by_cases e : m = b + 1
    · subst e; rw [Sm_nil]; rfl
    · rw [Sm_succ (by omega), Sm_succ (by omega), Sm_split h1 (b := b) (by omega)]; omega
theorem Sm_one (l : List In) (lo a : Nat) : Sm l lo a (a + 1) = wt l lo a := by rw [Sm_succ (Nat.le_refl _), Sm_nil]; omega
theorem Sm_first {l : List In} {lo a b : Nat} (h : a < b) : Sm l lo a b = wt l lo a + Sm l lo (a + 1) b := by
  rw [Sm_split (show a ≤ a + 1 by omega) (by omega), Sm_one]
theorem Sm_mul {l : List In} {lo lo' a N : Nat} : ∀ {b : Nat}, a ≤ b → (∀ i, a ≤ i → i < b → wt l lo i = N * wt l lo' i) → Sm l lo a b = N * Sm l lo' a b
  | 0, h, _ => by
    obtain rfl : a = 0 := by omega
    rw [Sm_nil, Sm_nil]; rfl
  | b + 1, h, hw => by
    by_cases e : a = b + 1
    · subst e; rw [Sm_nil, Sm_nil]; rfl
    · rw [Sm_succ (by omega), Sm_succ (by omega), Sm_mul (b := b) (by omega) fun i h1 h2 => hw i h1 (by omega), hw b (by omega) (by omega), Nat.mul_add]
theorem Sm_congr {l : List In} {lo lo' a b : Nat} (h : a ≤ b) (hw : ∀ i, a ≤ i → i < b → wt l lo i = wt l lo' i) : Sm l lo a b = Sm l lo' a b := by
  have := Sm_mul (l := l) (lo := lo) (lo' := lo') (N := 1) h (fun i h1 h2 => by rw [Nat.one_mul]; exact hw i h1 h2)
  rwa [Nat.one_mul] at this
theorem Sm_bd {l : List In} {lo a : Nat} : ∀ {b : Nat}, a ≤ b → (∀ i, a ≤ i → i < b → wt l lo i ≤ 400) → Sm l lo a b ≤ 400 * (b - a)
  | 0, h, _ => by
    obtain rfl : a = 0 := by omega
    rw [Sm_nil]; omega
  | b + 1, h, hw => by
    by_cases e : a = b + 1
    · subst e; rw [Sm_nil]; omega
    · have := Sm_bd (b := b) (by omega) fun i h1 h2 => hw i h1 (by omega)
      have := hw b (by omega) (by omega)
      rw [Sm_succ (by omega)]
      omega
/-- how long a row is -/
def tk (l : List In) : Nat := Sm l 0 0 l.length
/-- a part of it -/
def sub (l : List In) (a n : Nat) : List In := (l.drop a).take n
theorem sub_len {l : List In} {a n : Nat} (h : a + n ≤ l.length) : (sub l a n).length = n := by simp [sub]; omega
theorem gt_of_sub {l : List In} {a n j : Nat} (h : j < n) : gt (sub l a n) j = gt l (a + j) := gt_sub h
theorem inB_sub {l : List In} {a n f j : Nat} (hf : f < n) : inB (sub l a n) f j = inB l (a + f) (a + j) := by
  rw [Bool.eq_iff_iff, inB_iff, inB_iff, gt_of_sub hf]
  omega
theorem wtA_sub {l : List In} {a n j : Nat} : ∀ {k : Nat}, k ≤ n → wtA (sub l a n) 0 j k = wtA l a (a + j) (a + k)
  | 0, _ => (wtA_low (Nat.le_refl _)).symm
  | k + 1, h => by
    have ih := wtA_sub (l := l) (a := a) (n := n) (j := j) (k := k) (by omega)
    have hs := inB_sub (l := l) (a := a) (n := n) (f := k) (j := j) (by omega)
    rw [show a + (k + 1) = a + k + 1 by omega]
    cases hb : inB l (a + k) (a + j) with
    | true =>
      rw [hb] at hs
      rw [wtA_yes (by omega) hs, wtA_yes (by omega) hb, ih]
      unfold nOf
      rw [gt_of_sub (by omega)]
    | false =>
      rw [hb] at hs
      rw [wtA_no hs, wtA_no hb, ih]
theorem wt_sub {l : List In} {a n j : Nat} (h : j ≤ n) : wt (sub l a n) 0 j = wt l a (a + j) := wtA_sub h
theorem Sm_sub {l : List In} {a n : Nat} : ∀ {k : Nat}, k ≤ n → Sm (sub l a n) 0 0 k = Sm l a a (a + k)
  | 0, _ => by rw [Sm_nil, Nat.add_zero, Sm_nil]
  | k + 1, h => by rw [Sm_succ (by omega), show a + (k + 1) = a + k + 1 by omega, Sm_succ (by omega), Sm_sub (k := k) (by omega), wt_sub (by omega)]
theorem tk_sub {l : List In} {a n : Nat} (h : a + n ≤ l.length) : tk (sub l a n) = Sm l a a (a + n) := by
  unfold tk
  rw [sub_len h, Sm_sub (Nat.le_refl _)]
/-- rows whose bodies end in them -/
structure Tk (l : List In) : Prop where
  may : l.all mayB = true
  len : l.length ≤ 24
  cl : ∀ f, f < l.length → (gt l f).1 = 8 → f + rch (gt l f) < l.length ∧ ∀ g, f < g → g ≤ f + rch (gt l f) → (gt l g).1 = 8 → g + rch (gt l g) ≤ f + rch (gt l f)
  bd : ∀ i, i < l.length → wt l 0 i ≤ 400
theorem Tk.tk_le {l : List In} (h : Tk l) : tk l ≤ 9600 := by
  have h1 := Sm_bd (l := l) (lo := 0) (a := 0) (b := l.length) (Nat.zero_le _) fun i _ hi => h.bd i hi
  have := h.len
  unfold tk
  omega
theorem Tk.sm_le {l : List In} (h : Tk l) {k : Nat} (hk : k ≤ l.length) : Sm l 0 0 k ≤ 9600 := by
  have h1 := Sm_bd (l := l) (lo := 0) (a := 0) (b := k) (Nat.zero_le _) fun i _ hi => h.bd i (by omega)
  have := h.len
  omega
theorem all_subL {l : List In} (h : l.all mayB = true) (a n : Nat) : (sub l a n).all mayB = true := by
  rw [List.all_eq_true] at h ⊢
  exact fun x hx => h x (List.drop_subset _ _ (List.take_subset _ _ hx))
theorem Tk.sub {l : List In} (h : Tk l) {a n : Nat} (ha : a + n ≤ l.length) (hc : ∀ f, a ≤ f → f < a + n → (gt l f).1 = 8 → f + rch (gt l f) < a + n) : Tk (sub l a n) := by
  refine ⟨all_subL h.may a n, ?_, fun f hf h8 => ?_, fun i hi => ?_⟩
  · rw [sub_len ha]; have := h.len; omega
  · rw [sub_len ha] at hf ⊢
    rw [gt_of_sub hf] at h8 ⊢
    have h1 := hc (a + f) (by omega) (by omega) h8
    have h2 := (h.cl (a + f) (by omega) h8).2
    refine ⟨by omega, fun g hg1 hg2 hg8 => ?_⟩
    rw [gt_of_sub (by omega)] at hg8 ⊢
    have := h2 (a + g) (by omega) (by omega) hg8
    omega
  · rw [sub_len ha] at hi
    rw [wt_sub (by omega)]
    have := wt_le h.may (lo := a) (i := a + i) (by omega)
    have := h.bd (a + i) (by omega)
    omega
/-- in no body -/
def Top (l : List In) (k : Nat) : Prop := ∀ f, f < k → inB l f k = false
theorem top_zero (l : List In) : Top l 0 := fun f h => by omega
theorem top_in {l : List In} {k f i : Nat} (ht : Top l k) (h1 : f < k) (h2 : k ≤ i) : inB l f i = false := by
  have := inB_no.1 (ht f h1)
  rw [inB_no]
  omega
theorem top_wt {l : List In} {k : Nat} (ht : Top l k) : wt l 0 k = 1 := wtA_one fun f _ h => ht f h
theorem top_next {l : List In} {k : Nat} (ht : Top l k) (h8 : (gt l k).1 ≠ 8) : Top l (k + 1) := fun f hf => by
  by_cases e : f = k
  · subst e; rw [inB_no]; exact fun h => h8 h.2
  · exact top_in ht (by omega) (by omega)
theorem top_rep {l : List In} (hT : Tk l) {k : Nat} (hk : k < l.length) (ht : Top l k) (h8 : (gt l k).1 = 8) : Top l (k + rch (gt l k) + 1) := fun f hf => by
  by_cases e : f < k
  · exact top_in ht e (by omega)
  · rw [inB_no]
    rintro ⟨⟨h1, h2⟩, h3⟩
    by_cases e2 : f = k
    · subst e2; omega
    · have := (hT.cl k hk h8).2 f (by omega) (by omega) h3
      omega
theorem sm_next {l : List In} {k : Nat} (ht : Top l k) : Sm l 0 0 (k + 1) = Sm l 0 0 k + 1 := by rw [Sm_succ (by omega), top_wt ht]
theorem sm_rep {l : List In} (hT : Tk l) {k : Nat} (hk : k < l.length) (ht : Top l k) (h8 : (gt l k).1 = 8) :
    Tk (sub l (k + 1) (rch (gt l k))) ∧ Sm l 0 0 (k + rch (gt l k) + 1) = Sm l 0 0 k + 1 + nOf l k * tk (sub l (k + 1) (rch (gt l k))) := by
  have hc := hT.cl k hk h8
  refine ⟨hT.sub (by omega) (fun f h1 h2 h3 => by have := hc.2 f (by omega) (by omega) h3; omega), ?_⟩
  rw [tk_sub (by omega), Sm_split (show 0 ≤ k + 1 by omega) (show k + 1 ≤ k + rch (gt l k) + 1 by omega), sm_next ht, show k + 1 + rch (gt l k) = k + rch (gt l k) + 1 by omega]
  congr 1
  refine Sm_mul (by omega) fun i h1 h2 => ?_
  have hs := wtA_split (l := l) (lo := 0) (i := i) (m := k + 1) (by omega) (k := i) (by omega)
  unfold wt
  rw [hs, wtA_yes (by omega) (inB_iff.2 ⟨⟨by omega, by omega⟩, h8⟩), wtA_one fun f _ hf => top_in ht hf (by omega), Nat.one_mul]
theorem tk_of {l : List In} (h : Prg l) : Tk l := by
  refine ⟨h.all, h.le.2, fun f hf h8 => ?_, fun i hi => ?_⟩
  · have := h.nest.1 f (is_ar (.inl h8))
    refine ⟨by omega, fun g h1 h2 h3 => h.nest.2 f (is_ar (.inl h8)) g (is_ar (.inl h3)) (inA_iff.2 ⟨h1, h2⟩)⟩
  · have h1 := wtA_bd h.all (i := i) (k := i)
    have h2 := h.shal i hi
    have h3 := cntN_mono (p := fun f => inA l f i && (gt l f).1 == 8) (show i ≤ 24 by have := h.le; omega)
    unfold bodN at h2
    have h4 : 20 ^ cntN i (fun f => inA l f i && (gt l f).1 == 8) ≤ 20 ^ 2 := Nat.pow_le_pow_right (by omega) (by omega)
    unfold wt
    omega
end Go.Proofs.Ytonholadabebbaa

namespace Go.Proofs.Ytonholadabebbaa

/-! ### a Lock and its Unlock -/
theorem opn_cases {l : List In} (h : okP l = true) {i : Nat} (hi : i < l.length) :
    ((gt l i).1 = 9 ∧ opn l (i + 1) = opn l i ++ [i]) ∨ ((gt l i).1 = 10 ∧ ∃ j, opn l i = opn l (i + 1) ++ [j] ∧ (gt l j).2.1 = (gt l i).2.1 ∧ scL l j = scL l i) ∨ ((gt l i).1 ≠ 9 ∧ (gt l i).1 ≠ 10 ∧ opn l (i + 1) = opn l i) := by
  rcases step_cases (opn_step h hi) with ⟨a, b, _⟩ | a | a
  · exact .inl ⟨a, b⟩
  · exact .inr (.inl a)
  · exact .inr (.inr a)
theorem opn_keep {l : List In} (h : okP l = true) {k : Nat} (h9 : (gt l k).1 = 9) : ∀ n, k + 1 + n ≤ l.length → (∀ i, k < i → i ≤ k + 1 + n → k ∈ opn l i) ∨
    ∃ u, k < u ∧ u < k + 1 + n ∧ (gt l u).1 = 10 ∧ opn l u = opn l (u + 1) ++ [k] ∧ scL l k = scL l u ∧ (gt l k).2.1 = (gt l u).2.1 ∧ ∀ i, k < i → i ≤ u → k ∈ opn l i
  | 0, hn => by
    rcases opn_cases h (show k < l.length by omega) with ⟨_, b⟩ | ⟨a, _⟩ | ⟨a, _⟩
    · exact .inl fun i h1 h2 => by
        obtain rfl : i = k + 1 := by omega
        rw [b]; simp
    · omega
    · omega
  | n + 1, hn => by
    rcases opn_keep h h9 n (by omega) with ih | ⟨u, a1, a2, a3⟩
    · have hm := ih (k + 1 + n) (by omega) (Nat.le_refl _)
      have key : k ∈ opn l (k + 1 + n + 1) ∨ ((gt l (k + 1 + n)).1 = 10 ∧ opn l (k + 1 + n) = opn l (k + 1 + n + 1) ++ [k] ∧ scL l k = scL l (k + 1 + n) ∧ (gt l k).2.1 = (gt l (k + 1 + n)).2.1) := by
        rcases opn_cases h (show k + 1 + n < l.length by omega) with ⟨_, b⟩ | ⟨a, j, b, c, d⟩ | ⟨_, _, b⟩
        · exact .inl (by rw [b]; simp [hm])
        · rw [b] at hm
          rcases List.mem_append.1 hm with hm | hm
          · exact .inl hm
          · obtain rfl := List.mem_singleton.1 hm
            exact .inr ⟨a, b, d, c⟩
        · exact .inl (by rw [b]; exact hm)
      rcases key with key | ⟨b1, b2, b3, b4⟩
      · exact .inl fun i h1 h2 => by
          by_cases e : i = k + 1 + n + 1
          · subst e; exact key
          · exact ih i h1 (by omega)
      · exact .inr ⟨k + 1 + n, by omega, by omega, b1, b2, b3, b4, fun i h1 h2 => ih i h1 h2⟩
    · exact .inr ⟨u, a1, by omega, a3⟩
theorem out_keep {l : List In} (h : okP l = true) {k u : Nat} (hu : u < l.length) (h10 : (gt l u).1 = 10) (ho : opn l u = opn l (u + 1) ++ [k]) : ∀ n, u + 1 + n ≤ l.length → (outO l (u + 1 + n)).getD k 0 = (u : Int) ∧ k ∉ opn l (u + 1 + n)
  | 0, hn => by
    have hH := opn_held h (Nat.le_of_lt hu)
    rw [ho] at hH
    have hk := hH.lt k (by simp)
    refine ⟨?_, fun hm => ?_⟩
    · have hr := opn_run h (Nat.le_of_lt hu)
      rw [ho] at hr
      show (outO l (u + 1)).getD k 0 = u
      rw [out_un' h10 hr, getD_set (by rw [outO_len]; omega), if_pos rfl]
    · have := (held_before hH k hm).1
      omega
  | n + 1, hn => by
    obtain ⟨i1, i2⟩ := out_keep h hu h10 ho n (by omega)
    have hk : k < u := (opn_held h (Nat.le_of_lt hu)).lt k (by rw [ho]; simp)
    have hm : u + 1 + n < l.length := by omega
    rw [show u + 1 + (n + 1) = u + 1 + n + 1 by omega]
    rcases opn_cases h hm with ⟨a, b⟩ | ⟨a, j, b, c, d⟩ | ⟨a, a', b⟩
    · refine ⟨by rw [out_other' (by omega)]; exact i1, ?_⟩
      rw [b]
      simp [i2]
      omega
    · have hr := opn_run h (Nat.le_of_lt hm)
      have hj : j ∈ opn l (u + 1 + n) := by rw [b]; simp
      have hjl := (opn_held h (Nat.le_of_lt hm)).lt j hj
      rw [b] at hr i2
      refine ⟨?_, fun h' => i2 (by simp [h'])⟩
      rw [out_un' a hr, getD_set (by rw [outO_len]; omega), if_neg (by rintro rfl; simp at i2)]
      exact i1
    · exact ⟨by rw [out_other' a']; exact i1, by rw [b]; exact i2⟩
theorem un_pair {l : List In} (h : okP l = true) {k u : Nat} (hu : u < l.length) (h10 : (gt l u).1 = 10) (ho : opn l u = opn l (u + 1) ++ [k]) : (pairL l).getD k 0 = (u : Int) := by
  have := (out_keep h hu h10 ho (l.length - (u + 1)) (by omega)).1
  rwa [show u + 1 + (l.length - (u + 1)) = l.length by omega] at this
/-- of a Lock: its Unlock -/
structure Pr (l : List In) (k u : Nat) : Prop where
  out : (pairL l).getD k 0 = (u : Int)
  lt : k < u
  le : u < l.length
  un : (gt l u).1 = 10
  sc : scL l k = scL l u
  sema : (gt l k).2.1 = (gt l u).2.1
  held : ∀ i, k < i → i ≤ u → k ∈ opn l i
theorem pr_of {l : List In} (h : okP l = true) {k : Nat} (hk : k < l.length) (h9 : (gt l k).1 = 9) : ∃ u, Pr l k u := by
  rcases opn_keep h h9 (l.length - (k + 1)) (by omega) with ih | ⟨u, a1, a2, a3, a4, a5, a6, a7⟩
  · have := ih l.length hk (by omega)
    rw [opn_end h] at this
    cases this
  · exact ⟨u, un_pair h (by omega) a3 a4, a1, by omega, a3, a5, a6, a7⟩
theorem Pr.body {l : List In} (hl : l.length ≤ 24) {k u : Nat} (h : Pr l k u) (f : Nat) : inA l f k = inA l f u := by
  by_cases hf : f < 24
  · exact same_in h.sc hf
  · rw [inA_no.2 (by have := h.lt; have := h.le; omega), inA_no.2 (by have := h.lt; have := h.le; omega)]
/-- the weights behind a Lock -/
theorem Pr.wts {l : List In} (hl : l.length ≤ 24) {k u : Nat} (h : Pr l k u) (h9 : (gt l k).1 = 9) {lo i : Nat} (hlo : lo ≤ k) (h1 : k < i) (h2 : i ≤ u) : wt l lo i = wt l lo k * wt l (k + 1) i := by
  unfold wt
  rw [wtA_split (show lo ≤ k + 1 by omega) (show k + 1 ≤ i by omega), wtA_no (inB_no.2 (by omega))]
  congr 1
  refine wtA_congr fun f _ hf => ?_
  have hb := h.body hl f
  rw [Bool.eq_iff_iff, inA_iff, inA_iff] at hb
  rw [Bool.eq_iff_iff, inB_iff, inB_iff]
  constructor
  · rintro ⟨a, b⟩; exact ⟨by omega, b⟩
  · rintro ⟨a, b⟩; have := hb.1 a; exact ⟨by omega, b⟩
theorem Pr.subs {l : List In} (hP : Prg l) {k u : Nat} (h : Pr l k u) : Tk (sub l (k + 1) (u - k)) ∧ tk (sub l (k + 1) (u - k)) = Sm l (k + 1) (k + 1) (u + 1) := by
  have h1 := h.lt
  have h2 := h.le
  refine ⟨(tk_of hP).sub (by omega) (fun f f1 f2 f8 => ?_), ?_⟩
  · have hu := h.un
    have : f ≠ u := by rintro rfl; omega
    apply Decidable.byContradiction
    intro hn
    have hin : inA l f u = true := inA_iff.2 (by omega)
    rw [← h.body hP.le.2 f] at hin
    have := inA_iff.1 hin
    omega
  · rw [tk_sub (by omega), show k + 1 + (u - k) = u + 1 by omega]
/-! ### pieces -/
def isM (l : List In) (k : Nat) : Bool := (gt l k).1 == 11 || (gt l k).1 == 0
def frs (l : List In) : Nat → Nat
  | 0 => 0
  | k + 1 => if isM l k = true then k + 1 else frs l k
def lgs (l : List In) : Nat → Nat
  | 0 => 0
  | k + 1 => if isM l k = true then max (lgs l k) (Sm l 0 (frs l k) (k + 1)) else lgs l k
theorem frs_yes {l : List In} {k : Nat} (h : isM l k = true) : frs l (k + 1) = k + 1 ∧ lgs l (k + 1) = max (lgs l k) (Sm l 0 (frs l k) (k + 1)) := by
  rw [frs, lgs, if_pos h, if_pos h]; exact ⟨rfl, rfl⟩
theorem frs_no {l : List In} {k : Nat} (h : isM l k = false) : frs l (k + 1) = frs l k ∧ lgs l (k + 1) = lgs l k := by
  rw [frs, lgs, if_neg (by simp [h]), if_neg (by simp [h])]; exact ⟨rfl, rfl⟩
theorem frs_le (l : List In) : ∀ k, frs l k ≤ k
  | 0 => Nat.le_refl _
  | k + 1 => by
    rw [frs]
    split
    · omega
    · have := frs_le l k; omega
/-- behind a Mark there is no body of ahead of it -/
theorem frs_top {l : List In} (hP : Prg l) : ∀ {k : Nat}, k < l.length → ∀ f i, f < frs l k → frs l k ≤ i → inB l f i = false
  | 0, _, f, i, h1, _ => by simp [frs] at h1
  | k + 1, hk, f, i, h1, h2 => by
    cases hm : isM l k with
    | false =>
      rw [(frs_no hm).1] at h1 h2
      exact frs_top hP (by omega) f i h1 h2
    | true =>
      rw [(frs_yes hm).1] at h1 h2
      have h0 : (gt l k).1 ≠ 0 := fun h => by
        have := (hP.ins k (by omega)).2.1 h
        omega
      have h11 : (gt l k).1 = 11 := by
        unfold isM at hm
        simpa [h0] using hm
      have hle := hP.le
      rw [inB_no]
      rintro ⟨h3, h4⟩
      by_cases e : f = k
      · subst e; omega
      · have := inA_no.1 ((hP.mark k (by omega) h11).1 f (by omega))
        omega
theorem wt_top {l : List In} {a i : Nat} (h : ∀ f, f < a → inB l f i = false) (hi : a ≤ i) : wt l a i = wt l 0 i := by
  unfold wt
  rw [wtA_split (l := l) (lo := 0) (i := i) (m := a) (by omega) hi, wtA_one fun f _ hf => h f hf, Nat.one_mul]
theorem piece_sub {l : List In} (hP : Prg l) {k : Nat} (hk : k < l.length) (hm : isM l k = true) :
    Tk (sub l (frs l k) (k + 1 - frs l k)) ∧ tk (sub l (frs l k) (k + 1 - frs l k)) = Sm l 0 (frs l k) (k + 1) := by
  have hf := frs_le l k
  have hle := hP.le
  refine ⟨(tk_of hP).sub (by omega) (fun f f1 f2 f8 => ?_), ?_⟩
  · have har := hP.nest.1 f (is_ar (.inl f8))
    have h811 : f ≠ k := by
      rintro rfl
      unfold isM at hm
      simp [f8] at hm
    by_cases h11 : (gt l k).1 = 11
    · have := inA_no.1 ((hP.mark k hk h11).1 f (by omega))
      omega
    · have h0 : (gt l k).1 = 0 := by
        unfold isM at hm
        simpa [h11] using hm
      have := (hP.ins k hk).2.1 h0
      omega
  · rw [tk_sub (by omega), show frs l k + (k + 1 - frs l k) = k + 1 by omega]
    exact Sm_congr (by omega) fun i h1 h2 => wt_top (fun f h3 => frs_top hP hk f i h3 h1) h1
theorem Prg.wt_le {l : List In} (hP : Prg l) {i : Nat} (hi : i < l.length) : wt l 0 i ≤ 400 := (tk_of hP).bd i hi
theorem Prg.sm_le {l : List In} (hP : Prg l) {a b : Nat} (h : a ≤ b) (hb : b ≤ l.length) : Sm l 0 a b ≤ 9600 := by
  have h1 := Sm_bd (l := l) (lo := 0) h fun i _ hi => hP.wt_le (by omega)
  have := hP.le
  omega
theorem lgs_bd {l : List In} (hP : Prg l) : ∀ {k : Nat}, k ≤ l.length → lgs l k ≤ 9600
  | 0, _ => by simp [lgs]
  | k + 1, hk => by
    have ih := lgs_bd hP (k := k) (by omega)
    cases hm : isM l k with
    | false => rw [(frs_no hm).2]; exact ih
    | true =>
      rw [(frs_yes hm).2]
      have := hP.sm_le (a := frs l k) (b := k + 1) (by have := frs_le l k; omega) hk
      omega
/-! ### spans -/
def spn (l : List In) (k : Nat) : Int × Int := ((gt l k).2.1, (Sm l (k + 1) (k + 1) (((pairL l).getD k 0).toNat + 1) : Int))
def spL (l : List In) : Nat → List (Int × Int)
  | 0 => []
  | k + 1 => if (gt l k).1 = 9 then spL l k ++ [spn l k] else spL l k
theorem spL_yes {l : List In} {k : Nat} (h : (gt l k).1 = 9) : spL l (k + 1) = spL l k ++ [spn l k] := by rw [spL, if_pos h]
theorem spL_no {l : List In} {k : Nat} (h : (gt l k).1 ≠ 9) : spL l (k + 1) = spL l k := by rw [spL, if_neg h]
theorem spL_len (l : List In) : ∀ k, (spL l k).length ≤ k
  | 0 => Nat.le_refl _
  | k + 1 => by
    have := spL_len l k
    rw [spL]
    split
    · simp; omega
    · omega
theorem spn_of {l : List In} {k u : Nat} (h : Pr l k u) : spn l k = ((gt l k).2.1, (Sm l (k + 1) (k + 1) (u + 1) : Int)) := by
  unfold spn
  rw [h.out]
  rfl
theorem spn_ref {l : List In} (hP : Prg l) {k u : Nat} (h : Pr l k u) (h9 : (gt l k).1 = 9) : Sm l 0 (k + 1) (u + 1) / wt l 0 k = Sm l (k + 1) (k + 1) (u + 1) := by
  have h1 := h.lt
  rw [Sm_mul (lo' := k + 1) (N := wt l 0 k) (by omega) fun i h1 h2 => h.wts hP.le.2 h9 (by omega) (by omega) (by omega)]
  exact Nat.mul_div_cancel_left _ (wt_pos hP.all)
end Go.Proofs.Ytonholadabebbaa

namespace Go.Proofs.Ytonholadabebbaa

def prF (l : List In) (i : Nat) (L : List Nat) : Nat := L.foldl (fun p f => if inB l f i = true then p * nOf l f else p) 1
theorem prF_snoc (l : List In) (i : Nat) (L : List Nat) (f : Nat) : prF l i (L ++ [f]) = if inB l f i = true then prF l i L * nOf l f else prF l i L := by simp [prF]
theorem prF_ar (l : List In) (i : Nat) : ∀ k, prF l i (arI l k) = wtA l 0 i k
  | 0 => rfl
  | k + 1 => by
    have ih := prF_ar l i k
    cases ha : isAr l k with
    | true =>
      rw [arI_yes ha, prF_snoc, ih]
      cases hb : inB l k i with
      | true => rw [if_pos rfl, wtA_yes (by omega) hb]
      | false => rw [if_neg (by simp), wtA_no hb]
    | false =>
      have hb : inB l k i = false := by
        rw [inB_no, isAr_no ha]
        omega
      rw [arI_no ha, ih, wtA_no hb]
theorem wt_full (l : List In) {i : Nat} : ∀ {k : Nat}, i ≤ k → wtA l 0 i k = wt l 0 i
  | 0, h => by
    obtain rfl : i = 0 := by omega
    rfl
  | k + 1, h => by
    by_cases e : i = k + 1
    · subst e; rfl
    · rw [wtA_no (inB_no.2 (by omega)), wt_full l (by omega)]
theorem prF_mono {l : List In} (h : l.all mayB = true) (i : Nat) : ∀ (L2 L1 : List Nat), prF l i L1 ≤ prF l i (L1 ++ L2)
  | [], L1 => by rw [List.append_nil]; exact Nat.le_refl _
  | f :: r, L1 => by
    have h1 : prF l i L1 ≤ prF l i (L1 ++ [f]) := by
      rw [prF_snoc]
      split
      · rename_i hb
        exact Nat.le_mul_of_pos_right _ (nOf_bd h (inB_iff.1 hb).2).1
      · exact Nat.le_refl _
    have h2 := prF_mono h i r (L1 ++ [f])
    rw [List.append_assoc] at h2
    exact Nat.le_trans h1 h2
theorem prF_all (l : List In) {i : Nat} (hi : i < l.length) : prF l i (arI l l.length) = wt l 0 i := by rw [prF_ar, wt_full l (by omega)]
theorem prF_take {l : List In} (hP : Prg l) {i : Nat} (hi : i < l.length) (a : Nat) : prF l i ((arI l l.length).take a) ≤ 400 := by
  have h1 := prF_mono hP.all i ((arI l l.length).drop a) ((arI l l.length).take a)
  rw [List.take_append_drop, prF_all l hi] at h1
  exact Nat.le_trans h1 (hP.wt_le hi)
theorem prF_next {l : List In} {i a : Nat} (ha : a < (arI l l.length).length) : prF l i ((arI l l.length).take (a + 1)) = if inB l (arI l l.length)[a] i = true then prF l i ((arI l l.length).take a) * nOf l (arI l l.length)[a] else prF l i ((arI l l.length).take a) := by
  rw [List.take_succ_eq_append_getElem ha, prF_snoc]
def tmA (l : List In) (n k : Nat) : List Int := (List.range n).map fun j => if j < k then ((wt l 0 j : Nat) : Int) else 0
theorem tmA_len (l : List In) (n k : Nat) : (tmA l n k).length = n := by simp [tmA]
theorem tmA_zero (l : List In) (n : Nat) : tmA l n 0 = List.replicate n 0 := by
  apply List.ext_getElem (by simp [tmA])
  intro i h1 h2
  simp [tmA]
theorem tmA_next (l : List In) (n k : Nat) : tmA l n (k + 1) = (tmA l n k).set k ((wt l 0 k : Nat) : Int) := by
  apply List.ext_getElem (by simp [tmA])
  intro i h1 h2
  rw [List.getElem_set]
  by_cases e : k = i
  · subst e; simp [tmA]
  · have : (i < k + 1) = (i < k) := by apply propext; omega
    simp [tmA, e, this]
theorem tmA_get {l : List In} {n i : Nat} (hi : i < n) : (tmA l n n)[i]'(by rw [tmA_len]; exact hi) = ((wt l 0 i : Nat) : Int) := by simp [tmA, hi]
end Go.Proofs.Ytonholadabebbaa

namespace Go.Proofs.Ytonholadabebbaa

theorem inB_cons {x : In} {l : List In} {f i : Nat} : inB (x :: l) (f + 1) (i + 1) = inB l f i := by
  rw [Bool.eq_iff_iff, inB_iff, inB_iff, gt_cons]
  omega
theorem inB_first {x : In} {l : List In} (hx : x.1 ≠ 8) {i : Nat} : inB (x :: l) 0 i = false := by
  rw [inB_no, gt_zero]
  exact fun h => hx h.2
theorem wtA_cons {x : In} {l : List In} (hx : x.1 ≠ 8) {i : Nat} : ∀ {k : Nat}, wtA (x :: l) 0 (i + 1) (k + 1) = wtA l 0 i k
  | 0 => by rw [wtA_no (inB_first hx)]; rfl
  | k + 1 => by
    have ih := wtA_cons hx (l := l) (i := i) (k := k)
    cases hb : inB l k i with
    | true =>
      rw [wtA_yes (by omega) hb, wtA_yes (k := k + 1) (by omega) (by rw [inB_cons]; exact hb), ih]
      unfold nOf
      rw [gt_cons]
    | false => rw [wtA_no hb, wtA_no (k := k + 1) (by rw [inB_cons]; exact hb), ih]
theorem wt_cons {x : In} {l : List In} (hx : x.1 ≠ 8) {i : Nat} : wt (x :: l) 0 (i + 1) = wt l 0 i := wtA_cons hx
theorem Sm_cons {x : In} {l : List In} (hx : x.1 ≠ 8) {a : Nat} : ∀ {b : Nat}, a ≤ b → Sm (x :: l) 0 (a + 1) (b + 1) = Sm l 0 a b
  | 0, h => by
    obtain rfl : a = 0 := by omega
    rw [Sm_nil, Sm_nil]
  | b + 1, h => by
    by_cases e : a = b + 1
    · subst e; rw [Sm_nil, Sm_nil]
    · rw [Sm_succ (l := x :: l) (b := b + 1) (by omega), Sm_succ (l := l) (b := b) (by omega), Sm_cons hx (b := b) (by omega), wt_cons hx]
theorem Sm_all {x : In} {l : List In} (hx : x.1 ≠ 8) (b : Nat) : Sm (x :: l) 0 0 (b + 1) = 1 + Sm l 0 0 b := by
  rw [Sm_first (by omega), Sm_cons hx (by omega)]
  rfl
theorem tk_cons {x : In} {l : List In} (hx : x.1 ≠ 8) : tk (x :: l) = tk l + 1 := by
  unfold tk
  rw [List.length_cons, Sm_all hx]
  omega
theorem isM_cons {x : In} {l : List In} {k : Nat} : isM (x :: l) (k + 1) = isM l k := by unfold isM; rw [gt_cons]
theorem spL_cons {x : In} {l : List In} (hx : x.1 ≠ 9) : ∀ k, (spL (x :: l) (k + 1)).length = (spL l k).length
  | 0 => by rw [spL_no (by rw [gt_zero]; exact hx)]; rfl
  | k + 1 => by
    have ih := spL_cons (l := l) hx k
    by_cases h9 : (gt l k).1 = 9
    · rw [spL_yes h9, spL_yes (k := k + 1) (by rw [gt_cons]; exact h9), List.length_append, List.length_append, ih]
      rfl
    · rw [spL_no h9, spL_no (k := k + 1) (by rw [gt_cons]; exact h9), ih]
theorem mark_cons {x : In} {l : List In} (hx : x.1 = 11) : ∀ k, frs (x :: l) (k + 1) = frs l k + 1 ∧ lgs (x :: l) (k + 1) = max 1 (lgs l k)
  | 0 => by
    have hm : isM (x :: l) 0 = true := by unfold isM; rw [gt_zero, hx]; rfl
    rw [(frs_yes hm).1, (frs_yes hm).2]
    refine ⟨rfl, ?_⟩
    show max 0 (Sm (x :: l) 0 0 1) = max 1 0
    rw [Sm_all (by omega), Sm_nil]
    rfl
  | k + 1 => by
    obtain ⟨i1, i2⟩ := mark_cons (l := l) hx k
    cases hm : isM l k with
    | true =>
      have hm' : isM (x :: l) (k + 1) = true := by rw [isM_cons]; exact hm
      rw [(frs_yes hm).1, (frs_yes hm).2, (frs_yes hm').1, (frs_yes hm').2, i1, i2, Sm_cons (by omega) (by have := frs_le l k; omega)]
      exact ⟨rfl, by omega⟩
    | false =>
      have hm' : isM (x :: l) (k + 1) = false := by rw [isM_cons]; exact hm
      rw [(frs_no hm).1, (frs_no hm).2, (frs_no hm').1, (frs_no hm').2, i1, i2]
      exact ⟨rfl, rfl⟩
theorem set_cons {x : In} {l : List In} (hx : x.1 = 1) : ∀ k, ((frs l k = 0 ∧ frs (x :: l) (k + 1) = 0) ∨ (frs l k ≠ 0 ∧ frs (x :: l) (k + 1) = frs l k + 1)) ∧ lgs l k ≤ lgs (x :: l) (k + 1) ∧ lgs (x :: l) (k + 1) ≤ lgs l k + 1
  | 0 => by
    have hm : isM (x :: l) 0 = false := by unfold isM; rw [gt_zero, hx]; rfl
    rw [(frs_no hm).1, (frs_no hm).2]
    exact ⟨.inl ⟨rfl, rfl⟩, Nat.le_refl _, by simp [lgs]⟩
  | k + 1 => by
    obtain ⟨i1, i2, i3⟩ := set_cons (l := l) hx k
    cases hm : isM l k with
    | true =>
      have hm' : isM (x :: l) (k + 1) = true := by rw [isM_cons]; exact hm
      rw [(frs_yes hm).1, (frs_yes hm).2, (frs_yes hm').1, (frs_yes hm').2]
      refine ⟨.inr ⟨by omega, rfl⟩, ?_⟩
      rcases i1 with ⟨a, b⟩ | ⟨a, b⟩
      · rw [a, b, Sm_all (by omega)]
        omega
      · rw [b, Sm_cons (by omega) (by have := frs_le l k; omega)]
        omega
    | false =>
      have hm' : isM (x :: l) (k + 1) = false := by rw [isM_cons]; exact hm
      rw [(frs_no hm).1, (frs_no hm).2, (frs_no hm').1, (frs_no hm').2]
      exact ⟨i1, i2, i3⟩
theorem lgs_pos {l : List In} (hP : Prg l) : 1 ≤ lgs l l.length := by
  have hle := hP.le
  obtain ⟨k, hk⟩ : ∃ k, l.length = k + 1 := ⟨l.length - 1, by omega⟩
  rw [hk]
  have h0 : (gt l k).1 = 0 := (hP.ins k (by omega)).2.2 hk.symm
  have hm : isM l k = true := by unfold isM; rw [h0]; rfl
  rw [(frs_yes hm).2, Sm_succ (frs_le l k)]
  have := wt_pos hP.all (lo := 0) (i := k)
  omega
end Go.Proofs.Ytonholadabebbaa
