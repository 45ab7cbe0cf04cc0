/-
  Instructions as four numbers, which of them may be, their bytes, and what bytes tell: plain facts; nothing of the program.
-/
namespace Go.Proofs.Yteikdocpncdheaa

/-- Op, A, B, N -/
abbrev In := Int × Int × Int × Int

def mayP (x : In) : Prop :=
  ((x.1 = 0 ∨ x.1 = 11) ∧ x.2.1 = 0 ∧ x.2.2.1 = 0 ∧ x.2.2.2 = 0) ∨
  (x.1 = 1 ∧ (0 ≤ x.2.1 ∧ x.2.1 ≤ 7) ∧ x.2.2.1 = 0 ∧ (-2147483648 ≤ x.2.2.2 ∧ x.2.2.2 ≤ 2147483647)) ∨
  ((x.1 = 2 ∨ x.1 = 3 ∨ x.1 = 4) ∧ (0 ≤ x.2.1 ∧ x.2.1 ≤ 7) ∧ (0 ≤ x.2.2.1 ∧ x.2.2.1 ≤ 7) ∧ x.2.2.2 = 0) ∨
  (x.1 = 5 ∧ (0 ≤ x.2.1 ∧ x.2.1 ≤ 7) ∧ x.2.2.1 = 0 ∧ (-63 ≤ x.2.2.2 ∧ x.2.2.2 ≤ 63)) ∨
  (x.1 = 6 ∧ (0 ≤ x.2.1 ∧ x.2.1 ≤ 7) ∧ x.2.2.1 = 0 ∧ (1 ≤ x.2.2.2 ∧ x.2.2.2 ≤ 64)) ∨
  (x.1 = 7 ∧ (0 ≤ x.2.1 ∧ x.2.1 ≤ 7) ∧ x.2.2.1 = 0 ∧ (1 ≤ x.2.2.2 ∧ x.2.2.2 ≤ 24)) ∨
  (x.1 = 8 ∧ x.2.1 = 0 ∧ (1 ≤ x.2.2.1 ∧ x.2.2.1 ≤ 24) ∧ (1 ≤ x.2.2.2 ∧ x.2.2.2 ≤ 20)) ∨
  ((x.1 = 9 ∨ x.1 = 10) ∧ (0 ≤ x.2.1 ∧ x.2.1 ≤ 3) ∧ x.2.2.1 = 0 ∧ x.2.2.2 = 0)
def decMay (x : In) : Decidable (mayP x) := by unfold mayP; exact inferInstance
def mayB (x : In) : Bool := @decide (mayP x) (decMay x)
theorem may_of {x : In} (h : mayP x) : mayB x = true := @decide_eq_true _ (decMay x) h
theorem may_not {x : In} (h : ¬ mayP x) : mayB x = false := @decide_eq_false _ (decMay x) h
theorem may_iff {x : In} : mayB x = true ↔ mayP x := @decide_eq_true_iff _ (decMay x)
theorem may_bd {x : In} (h : mayB x = true) : (0 ≤ x.1 ∧ x.1 ≤ 11) ∧ (0 ≤ x.2.1 ∧ x.2.1 ≤ 7) ∧ (0 ≤ x.2.2.1 ∧ x.2.2.1 ≤ 24) ∧ (-2147483648 ≤ x.2.2.2 ∧ x.2.2.2 ≤ 2147483647) := by
  have := may_iff.1 h
  unfold mayP at this
  omega

/-- the bytes of an instruction -/
def encB (x : In) : List Int := [x.1 % 256, x.2.1 % 256, x.2.2.1 % 256, x.2.2.2 % 4294967296 / 16777216, x.2.2.2 % 4294967296 / 65536 % 256, x.2.2.2 % 4294967296 / 256 % 256, x.2.2.2 % 256]
theorem encB_len (x : In) : (encB x).length = 7 := rfl
def allB : List In → List Int
  | [] => []
  | x :: r => encB x ++ allB r
theorem allB_len : ∀ l : List In, (allB l).length = 7 * l.length
  | [] => rfl
  | x :: r => by simp [allB, allB_len r, encB_len]; omega
theorem allB_snoc : ∀ (l : List In) (x : In), allB (l ++ [x]) = allB l ++ encB x
  | [], x => by simp [allB]
  | y :: r, x => by simp [allB, allB_snoc r x]
theorem allB_take (l : List In) (k : Nat) (h : k < l.length) : allB (l.take (k + 1)) = allB (l.take k) ++ encB l[k] := by
  rw [List.take_succ_eq_append_getElem h, allB_snoc]
def putOk (l : List In) : Bool := decide (l.length ≤ 24) && l.all mayB
/-- what Put tells -/
def putL (l : List In) : List Int := if putOk l then (l.length : Int) :: allB l else []
theorem putL_yes {l : List In} (h : l.length ≤ 24) (ha : l.all mayB = true) : putL l = (l.length : Int) :: allB l := by
  unfold putL putOk
  rw [if_pos (by simp only [Bool.and_eq_true, decide_eq_true_eq]; exact ⟨h, ha⟩)]
theorem putL_long {l : List In} (h : 24 < l.length) : putL l = [] := by
  unfold putL putOk
  rw [if_neg (by simp only [Bool.and_eq_true, decide_eq_true_eq]; omega)]
theorem putL_bad {l : List In} (k : Nat) (hk : k < l.length) (h : mayB l[k] = false) : putL l = [] := by
  unfold putL putOk
  rw [if_neg]
  intro hh
  simp only [Bool.and_eq_true, List.all_eq_true] at hh
  have := hh.2 l[k] (List.getElem_mem hk)
  rw [h] at this
  cases this
theorem all_take_succ {l : List In} {k : Nat} (hk : k < l.length) (h : (l.take k).all mayB = true) (hm : mayB l[k] = true) : (l.take (k + 1)).all mayB = true := by
  rw [List.take_succ_eq_append_getElem hk, List.all_append]
  simp [h, hm]
theorem encB_bd (x : In) : ∀ y ∈ encB x, 0 ≤ y ∧ y ≤ 255 := by
  intro y hy
  simp only [encB, List.mem_cons, List.not_mem_nil, or_false] at hy
  rcases hy with rfl | rfl | rfl | rfl | rfl | rfl | rfl <;> omega
theorem allB_bd : ∀ (l : List In), ∀ y ∈ allB l, 0 ≤ y ∧ y ≤ 255
  | x :: r, y, hy => by
    simp only [allB, List.mem_append] at hy
    rcases hy with hy | hy
    · exact encB_bd x y hy
    · exact allB_bd r y hy
theorem putL_bd (l : List In) : ∀ y ∈ putL l, 0 ≤ y ∧ y ≤ 255 := by
  intro y hy
  unfold putL at hy
  split at hy
  · rename_i h
    unfold putOk at h
    simp only [Bool.and_eq_true, decide_eq_true_eq] at h
    rcases List.mem_cons.1 hy with rfl | hy
    · omega
    · exact allB_bd l y hy
  · simp at hy
theorem putL_len_le (l : List In) : (putL l).length ≤ 169 := by
  unfold putL
  split
  · rename_i h
    unfold putOk at h
    simp only [Bool.and_eq_true, decide_eq_true_eq] at h
    simp only [List.length_cons, allB_len]
    omega
  · simp

/-- 32 bits as a number with a sign -/
def s32 (u : Int) : Int := if u < 2147483648 then u else u - 4294967296
def u4 (b0 b1 b2 b3 : Int) : Int := b0 * 16777216 + b1 * 65536 + b2 * 256 + b3
/-- what seven bytes tell -/
def decI (b : List Int) : In := (b.getD 0 0, b.getD 1 0, b.getD 2 0, s32 (u4 (b.getD 3 0) (b.getD 4 0) (b.getD 5 0) (b.getD 6 0)))
def decL : Nat → List Int → List In
  | 0, _ => []
  | n + 1, b => decI b :: decL n (b.drop 7)
theorem decL_len : ∀ (n : Nat) (b : List Int), (decL n b).length = n
  | 0, _ => rfl
  | n + 1, b => by simp [decL, decL_len n]
theorem decL_succ : ∀ (n : Nat) (b : List Int), decL (n + 1) b = decL n b ++ [decI (b.drop (7 * n))]
  | 0, b => by simp [decL]
  | n + 1, b => by
    show decI b :: decL (n + 1) (b.drop 7) = decI b :: decL n (b.drop 7) ++ _
    rw [decL_succ n (b.drop 7), List.drop_drop, List.cons_append, show 7 + 7 * n = 7 * (n + 1) by omega]
theorem decL_take (n : Nat) (b : List Int) (k : Nat) (hk : k ≤ n) : (decL n b).take k = decL k b := by
  induction n with
  | zero => obtain rfl : k = 0 := by omega
            rfl
  | succ n ih =>
    by_cases h : k = n + 1
    · subst h
      rw [List.take_of_length_le (by rw [decL_len]; exact Nat.le_refl _)]
    · rw [decL_succ, List.take_append_of_le_length (by rw [decL_len]; omega)]
      exact ih (by omega)
theorem decL_get (n : Nat) (b : List Int) (k : Nat) (hk : k < n) : (decL n b)[k]'(by rw [decL_len]; exact hk) = decI (b.drop (7 * k)) := by
  have h1 := decL_take n b (k + 1) (by omega)
  rw [List.take_succ_eq_append_getElem (by rw [decL_len]; exact hk), decL_take n b k (by omega), decL_succ] at h1
  exact List.head_eq_of_cons_eq (List.append_cancel_left h1)

def lenOk (b : List Int) : Bool := decide (b ≠ []) && (decide (b.getD 0 0 ≤ 24) && decide ((b.length : Int) = 1 + 7 * b.getD 0 0))
/-- what Take tells -/
def allI (b : List Int) : List In := decL (b.getD 0 0).toNat (b.drop 1)
def okT (b : List Int) : Bool := lenOk b && (allI b).all mayB
def takeL (b : List Int) : List In := if okT b then allI b else []
theorem okT_len {b : List Int} (h : lenOk b = false) : okT b = false := by unfold okT; rw [h]; rfl
theorem takeL_no {b : List Int} (h : okT b = false) : takeL b = [] := by unfold takeL; rw [if_neg (by rw [h]; simp)]
theorem takeL_yes {b : List Int} (h : okT b = true) : takeL b = allI b := by unfold takeL; rw [if_pos h]
theorem okT_yes {b : List Int} (h : lenOk b = true) (h2 : (allI b).all mayB = true) : okT b = true := by unfold okT; rw [h, h2]; rfl
theorem okT_bad {b : List Int} (k : Nat) (hk : k < (allI b).length) (h : mayB (allI b)[k] = false) : okT b = false := by
  unfold okT
  have : (allI b).all mayB = false := by
    rw [Bool.eq_false_iff]
    intro hh
    rw [List.all_eq_true] at hh
    have := hh _ (List.getElem_mem hk)
    rw [h] at this
    cases this
  rw [this, Bool.and_false]

/-! ### what is put is taken -/
theorem s32_enc (n : Int) (h : -2147483648 ≤ n ∧ n ≤ 2147483647) : s32 (u4 (n % 4294967296 / 16777216) (n % 4294967296 / 65536 % 256) (n % 4294967296 / 256 % 256) (n % 256)) = n := by
  unfold s32 u4
  split <;> omega
theorem decI_enc {x : In} (h : mayB x = true) (r : List Int) : decI (encB x ++ r) = x := by
  obtain ⟨h1, h2, h3, h4⟩ := may_bd h
  obtain ⟨o, a, b, n⟩ := x
  simp only at h1 h2 h3 h4
  have e := s32_enc n h4
  show (o % 256, a % 256, b % 256, s32 (u4 (n % 4294967296 / 16777216) (n % 4294967296 / 65536 % 256) (n % 4294967296 / 256 % 256) (n % 256))) = (o, a, b, n)
  rw [e, show o % 256 = o by omega, show a % 256 = a by omega, show b % 256 = b by omega]
theorem decL_all : ∀ (l : List In) (r : List Int), l.all mayB = true → decL l.length (allB l ++ r) = l
  | [], _, _ => rfl
  | x :: l, r, h => by
    simp only [List.all_cons, Bool.and_eq_true] at h
    show decI (allB (x :: l) ++ r) :: decL l.length ((allB (x :: l) ++ r).drop 7) = _
    rw [allB, List.append_assoc, decI_enc h.1, List.drop_append_of_le_length (by rw [encB_len]; omega), List.drop_of_length_le (by rw [encB_len]; omega), List.nil_append, decL_all l r h.2]
theorem put_take {l : List In} (h : l.length ≤ 24) (ha : l.all mayB = true) : okT (putL l) = true ∧ takeL (putL l) = l := by
  have hp := putL_yes h ha
  have hi : allI (putL l) = l := by
    unfold allI
    rw [hp]
    simp only [List.getD_cons_zero, Int.toNat_natCast, List.drop_succ_cons, List.drop_zero]
    have := decL_all l [] ha
    rwa [List.append_nil] at this
  have hl : lenOk (putL l) = true := by
    unfold lenOk
    rw [hp]
    simp [allB_len]
    omega
  have ho : okT (putL l) = true := okT_yes hl (by rw [hi]; exact ha)
  exact ⟨ho, by rw [takeL_yes ho, hi]⟩
theorem put_inj {l m : List In} (h : l.length ≤ 24) (ha : l.all mayB = true) (h' : m.length ≤ 24) (ha' : m.all mayB = true) : putL l = putL m ↔ l = m := by
  constructor
  · intro e
    rw [← (put_take h ha).2, e, (put_take h' ha').2]
  · intro e; rw [e]
theorem put_cut {l : List In} (h : l.length ≤ 24) (ha : l.all mayB = true) (k : Nat) (hk : k < (putL l).length) : okT ((putL l).take k) = false := by
  apply okT_len
  rw [putL_yes h ha] at hk ⊢
  cases k with
  | zero => rfl
  | succ k =>
    unfold lenOk
    simp only [List.length_cons, allB_len] at hk
    simp [allB_len]
    intro _
    omega
theorem put_more {l : List In} (h : l.length ≤ 24) (ha : l.all mayB = true) (x : Int) : okT (putL l ++ [x]) = false := by
  apply okT_len
  rw [putL_yes h ha]
  unfold lenOk
  simp [allB_len]
  intro _
  omega
theorem putL_len {l : List In} (h : l.length ≤ 24) (ha : l.all mayB = true) : (putL l).length = 1 + 7 * l.length := by
  rw [putL_yes h ha]
  simp [allB_len]; omega
end Go.Proofs.Yteikdocpncdheaa
