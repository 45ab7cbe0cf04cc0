/-
  Plain facts on flags and on who waits for them: what is left, who stays, who is told. Nothing of the program.
-/
import Derived.WalkKit
import Derived.Laws.BitsAllLaws
namespace Go.Proofs.Ytodboigmmekkpaa

abbrev Wt := Int × Nat
/-- all masks fit -/
def UL (l : List Wt) : Prop := ∀ x ∈ l, x.2 < 4294967296
/-- b without the bits of m -/
def dn (b m : Nat) : Nat := b ^^^ (b &&& m)
theorem test_dn (b m j : Nat) : (dn b m).testBit j = (b.testBit j && !m.testBit j) := by
  unfold dn
  rw [Nat.testBit_xor, Nat.testBit_and]
  cases b.testBit j <;> cases m.testBit j <;> rfl
theorem and_lt {b m : Nat} (h : b < 4294967296) : b &&& m < 4294967296 := Nat.lt_of_le_of_lt Nat.and_le_left h
theorem and_lt' {b m : Nat} (h : m < 4294967296) : b &&& m < 4294967296 := Nat.lt_of_le_of_lt Nat.and_le_right h
theorem or_lt {b m : Nat} (h : b < 4294967296) (k : m < 4294967296) : b ||| m < 4294967296 := Nat.or_lt_two_pow (n := 32) h k
theorem dn_lt {b : Nat} (m : Nat) (h : b < 4294967296) : dn b m < 4294967296 := Nat.xor_lt_two_pow (n := 32) h (and_lt h)
theorem add_of_and {x y : Nat} (hx : x < 4294967296) (hy : y < 4294967296) (h : x &&& y = 0) : x + y = x ||| y := by
  have h1 : BitVec.ofNat 33 x &&& BitVec.ofNat 33 y = 0#33 := by
    rw [← BitVec.ofNat_and, h]
  have h2 := congrArg BitVec.toNat (BitVec.add_eq_or_of_and_eq_zero (BitVec.ofNat 33 x) (BitVec.ofNat 33 y) h1)
  rw [← BitVec.ofNat_or, BitVec.toNat_add, BitVec.toNat_ofNat, BitVec.toNat_ofNat, BitVec.toNat_ofNat] at h2
  have h3 := or_lt hx hy
  omega
theorem dn_add {b : Nat} (m : Nat) (h : b < 4294967296) : dn b m + (b &&& m) = b := by
  have e : dn b m &&& (b &&& m) = 0 := by
    refine Nat.eq_of_testBit_eq fun j => ?_
    rw [Nat.testBit_and, test_dn, Nat.testBit_and, Nat.zero_testBit]
    cases b.testBit j <;> cases m.testBit j <;> rfl
  rw [add_of_and (dn_lt m h) (and_lt h) e]
  refine Nat.eq_of_testBit_eq fun j => ?_
  rw [Nat.testBit_or, test_dn, Nat.testBit_and]
  cases b.testBit j <;> cases m.testBit j <;> rfl
theorem dn_zero {b m : Nat} (h : b &&& m = 0) : dn b m = b := by unfold dn; rw [h, Nat.xor_zero]
theorem dn_nil (b : Nat) : dn b 0 = b := dn_zero (Nat.and_zero b)
theorem dn_and (b m : Nat) : dn b (b &&& m) = dn b m := by
  refine Nat.eq_of_testBit_eq fun j => ?_
  rw [test_dn, test_dn, Nat.testBit_and]
  cases b.testBit j <;> cases m.testBit j <;> rfl
theorem andNot_dn {b m : Nat} (h : b < 4294967296) (hm : m < 4294967296) : b &&& (4294967295 - m) = dn b m := by
  refine Nat.eq_of_testBit_eq fun j => ?_
  have e : 4294967295 - m = 2 ^ 32 - (m + 1) := by omega
  rw [Nat.testBit_and, e, Nat.testBit_two_pow_sub_succ hm, test_dn]
  by_cases hj : j < 32
  · simp [hj]
  · have : b.testBit j = false := Nat.testBit_lt_two_pow (Nat.lt_of_lt_of_le h (Nat.pow_le_pow_right (n := 2) (by decide) (by omega) : 2 ^ 32 ≤ 2 ^ j))
    simp [this]
theorem bit_of {x : Nat} (h : x = 0) (j : Nat) : x.testBit j = false := by rw [h]; exact Nat.zero_testBit j
theorem and_bit {x y : Nat} (h : x &&& y = 0) {j : Nat} (hx : x.testBit j = true) : y.testBit j = false := by
  have := bit_of h j
  rw [Nat.testBit_and, hx] at this
  simpa using this
theorem bit_and {x y : Nat} (h : ∀ j, x.testBit j = true → y.testBit j = false) : x &&& y = 0 := by
  refine Nat.eq_of_testBit_eq fun j => ?_
  rw [Nat.testBit_and, Nat.zero_testBit]
  cases hx : x.testBit j with
  | false => rfl
  | true => rw [h j hx]; rfl
theorem in_bit {x y : Nat} (h : x &&& y = x) {j : Nat} (hx : x.testBit j = true) : y.testBit j = true := by
  have := congrArg (fun z => z.testBit j) h
  simp only [Nat.testBit_and, hx] at this
  simpa using this
theorem bit_in {x y : Nat} (h : ∀ j, x.testBit j = true → y.testBit j = true) : x &&& y = x := by
  refine Nat.eq_of_testBit_eq fun j => ?_
  rw [Nat.testBit_and]
  cases hx : x.testBit j with
  | false => rfl
  | true => rw [h j hx]; rfl

/-- what is left of b, once all have had theirs -/
def lf (b : Nat) : List Wt → Nat
  | [] => b
  | x :: r => lf (dn b x.2) r
/-- who waits on -/
def kp (b : Nat) : List Wt → List Wt
  | [] => []
  | x :: r => if b &&& x.2 = 0 then x :: kp (dn b x.2) r else kp (dn b x.2) r
/-- who is told which -/
def tl (b : Nat) : List Wt → List Wt
  | [] => []
  | x :: r => if b &&& x.2 = 0 then tl (dn b x.2) r else (x.1, b &&& x.2) :: tl (dn b x.2) r
/-- what each gets -/
def gs (b : Nat) : List Wt → List Nat
  | [] => []
  | x :: r => (b &&& x.2) :: gs (dn b x.2) r
theorem gs_length : ∀ (b : Nat) (l : List Wt), (gs b l).length = l.length
  | _, [] => rfl
  | b, x :: r => by simp [gs, gs_length _ r]
theorem lf_snoc (x : Wt) : ∀ (b : Nat) (l : List Wt), lf b (l ++ [x]) = dn (lf b l) x.2
  | _, [] => rfl
  | b, y :: r => by simp only [List.cons_append, lf]; exact lf_snoc x _ r
theorem kp_snoc (x : Wt) : ∀ (b : Nat) (l : List Wt), kp b (l ++ [x]) = kp b l ++ (if lf b l &&& x.2 = 0 then [x] else [])
  | b, [] => by by_cases h : b &&& x.2 = 0 <;> simp [kp, lf, h]
  | b, y :: r => by
    have := kp_snoc x (dn b y.2) r
    by_cases h : b &&& y.2 = 0 <;> by_cases h2 : lf (dn b y.2) r &&& x.2 = 0 <;> simp [kp, lf, h, h2, this]
theorem tl_snoc (x : Wt) : ∀ (b : Nat) (l : List Wt), tl b (l ++ [x]) = tl b l ++ (if lf b l &&& x.2 = 0 then [] else [(x.1, lf b l &&& x.2)])
  | b, [] => by by_cases h : b &&& x.2 = 0 <;> simp [tl, lf, h]
  | b, y :: r => by
    have := tl_snoc x (dn b y.2) r
    by_cases h : b &&& y.2 = 0 <;> by_cases h2 : lf (dn b y.2) r &&& x.2 = 0 <;> simp [tl, lf, h, h2, this]
theorem gs_get : ∀ (b : Nat) (l : List Wt) (i : Nat) (h : i < l.length) (h' : i < (gs b l).length), (gs b l)[i] = lf b (l.take i) &&& (l[i]).2
  | b, x :: r, 0, _, _ => by simp [gs, lf]
  | b, x :: r, i + 1, h, h' => by
    simp only [gs, List.getElem_cons_succ, List.take_succ_cons, lf]
    exact gs_get _ r i (by simpa using h) _
theorem take_next (l : List Wt) (i : Nat) (h : i < l.length) : l.take (i + 1) = l.take i ++ [l[i]] := by
  rw [List.take_add_one, List.getElem?_eq_getElem h]; rfl
theorem test_lf (j : Nat) : ∀ (b : Nat) (l : List Wt), (lf b l).testBit j = (b.testBit j && !l.any (·.2.testBit j))
  | b, [] => by simp [lf]
  | b, x :: r => by
    simp only [lf, List.any_cons]
    rw [test_lf j _ r, test_dn]
    cases b.testBit j <;> cases x.2.testBit j <;> simp
theorem lf_lt {b : Nat} (h : b < 4294967296) : ∀ (l : List Wt), lf b l < 4294967296
  | [] => h
  | x :: r => lf_lt (dn_lt x.2 h) r
theorem kp_sub : ∀ (b : Nat) (l : List Wt), List.Sublist (kp b l) l
  | _, [] => List.Sublist.slnil
  | b, x :: r => by
    simp only [kp]
    split
    · exact (kp_sub _ r).cons_cons x
    · exact (kp_sub _ r).cons x
theorem tl_sub : ∀ (b : Nat) (l : List Wt), List.Sublist ((tl b l).map (·.1)) (l.map (·.1))
  | _, [] => List.Sublist.slnil
  | b, x :: r => by
    simp only [tl, List.map_cons]
    split
    · exact (tl_sub _ r).cons x.1
    · exact (tl_sub _ r).cons_cons x.1
theorem lens : ∀ (b : Nat) (l : List Wt), (kp b l).length + (tl b l).length = l.length
  | _, [] => rfl
  | b, x :: r => by
    have := lens (dn b x.2) r
    simp only [kp, tl]
    split <;> simp <;> omega
theorem kp_le (b : Nat) (l : List Wt) : (kp b l).length ≤ l.length := by have := lens b l; omega
theorem tl_le (b : Nat) (l : List Wt) : (tl b l).length ≤ l.length := by have := lens b l; omega
theorem UL.kp {l : List Wt} (h : UL l) (b : Nat) : UL (kp b l) := fun x hx => h x ((kp_sub b l).mem hx)
theorem UL.take {l : List Wt} (h : UL l) (k : Nat) : UL (l.take k) := fun x hx => h x (List.mem_of_mem_take hx)
theorem UL.get {l : List Wt} (h : UL l) (i : Nat) (hi : i < l.length) : (l[i]).2 < 4294967296 := h _ (List.getElem_mem hi)
theorem UL.nil : UL [] := fun x hx => by cases hx
theorem UL.app {l m : List Wt} (h : UL l) (k : UL m) : UL (l ++ m) := fun x hx => (List.mem_append.1 hx).elim (h x) (k x)
theorem tl_mem : ∀ (b : Nat) (l : List Wt), ∀ t ∈ tl b l, t.2 ≠ 0 ∧ ∃ x ∈ l, x.1 = t.1 ∧ t.2 &&& x.2 = t.2
  | _, [], t, ht => by cases ht
  | b, x :: r, t, ht => by
    simp only [tl] at ht
    split at ht
    · obtain ⟨h0, y, hy, h⟩ := tl_mem _ r t ht
      exact ⟨h0, y, List.mem_cons_of_mem _ hy, h⟩
    · rename_i hne
      rcases List.mem_cons.1 ht with rfl | ht
      · refine ⟨hne, x, List.mem_cons_self, rfl, bit_in fun j hj => ?_⟩
        rw [Nat.testBit_and] at hj
        simp only [Bool.and_eq_true] at hj
        exact hj.2
      · obtain ⟨h0, y, hy, h⟩ := tl_mem _ r t ht
        exact ⟨h0, y, List.mem_cons_of_mem _ hy, h⟩
theorem UL.tl {l : List Wt} (h : UL l) (b : Nat) : UL (tl b l) := fun t ht => by
  obtain ⟨_, x, hx, _, h2⟩ := tl_mem b l t ht
  rw [← h2]
  exact and_lt' (h x hx)

/-! flag by flag -/
/-- the first that waits for flag k -/
def FstP (l : List Wt) (k i : Nat) : Prop := ∃ h : i < l.length, (l[i]).2.testBit k = true ∧ ∀ j (hj : j < i), (l[j]'(Nat.lt_trans hj h)).2.testBit k = false
/-- nobody waits for flag k -/
def NoneP (l : List Wt) (k : Nat) : Prop := ∀ j (hj : j < l.length), (l[j]).2.testBit k = false
theorem NoneP.any {l : List Wt} {k : Nat} (h : NoneP l k) : l.any (·.2.testBit k) = false := by
  rw [List.any_eq_false]
  intro x hx
  obtain ⟨j, hj, rfl⟩ := List.getElem_of_mem hx
  simp [h j hj]
theorem FstP.any {l : List Wt} {k i : Nat} (h : FstP l k i) : l.any (·.2.testBit k) = true := by
  obtain ⟨hi, h1, _⟩ := h
  exact List.any_eq_true.2 ⟨l[i], List.getElem_mem hi, h1⟩
theorem gs_bit (b : Nat) (l : List Wt) (i k : Nat) (h : i < l.length) (h' : i < (gs b l).length) : ((gs b l)[i]).testBit k = (b.testBit k && !(l.take i).any (·.2.testBit k) && (l[i]).2.testBit k) := by
  rw [gs_get b l i h, Nat.testBit_and, test_lf]
theorem mod_step (x k : Nat) : x % 2 ^ (k + 1) = if x.testBit k then x % 2 ^ k ||| 2 ^ k else x % 2 ^ k := by
  refine Nat.eq_of_testBit_eq fun j => ?_
  split
  · rename_i hk
    rw [Nat.testBit_or, Nat.testBit_mod_two_pow, Nat.testBit_mod_two_pow, Nat.testBit_two_pow]
    by_cases e : k = j
    · subst e; simp [hk]
    · by_cases h : j < k
      · have : j < k + 1 := by omega
        simp [h, this, e]
      · have : ¬ j < k + 1 := by omega
        simp [h, this, e]
  · rename_i hk
    rw [Nat.testBit_mod_two_pow, Nat.testBit_mod_two_pow]
    by_cases e : k = j
    · subst e; simp at hk; simp [hk]
    · by_cases h : j < k
      · have : j < k + 1 := by omega
        simp [h, this]
      · have : ¬ j < k + 1 := by omega
        simp [h, this]
/-- what each has of the first k flags -/
def gk (b : Nat) (l : List Wt) (k : Nat) : List Nat := (gs b l).map (· % 2 ^ k)
/-- what none has of the first k flags -/
def nk (b : Nat) (l : List Wt) (k : Nat) : Nat := lf b l % 2 ^ k
theorem gk_length (b : Nat) (l : List Wt) (k : Nat) : (gk b l k).length = l.length := by simp [gk, gs_length]
theorem gk_zero (b : Nat) (l : List Wt) : gk b l 0 = List.replicate l.length 0 := by
  refine List.ext_getElem (by simp [gk_length]) fun i h1 h2 => ?_
  simp [gk, Nat.mod_one]
theorem nk_zero (b : Nat) (l : List Wt) : nk b l 0 = 0 := by simp [nk, Nat.mod_one]
theorem gk_same {b : Nat} {l : List Wt} {k : Nat} (h : ∀ i (h' : i < (gs b l).length), ((gs b l)[i]).testBit k = false) : gk b l (k + 1) = gk b l k := by
  refine List.ext_getElem (by simp [gk_length]) fun i h1 h2 => ?_
  simp only [gk, List.getElem_map]
  rw [mod_step, if_neg (by rw [h i (by simpa [gk] using h1)]; simp)]
theorem gk_off {b : Nat} {l : List Wt} {k : Nat} (h : b.testBit k = false) : gk b l (k + 1) = gk b l k :=
  gk_same fun i h' => by rw [gs_bit b l i k (by simpa [gs_length] using h'), h]; rfl
theorem nk_off {b : Nat} {l : List Wt} {k : Nat} (h : b.testBit k = false) : nk b l (k + 1) = nk b l k := by
  unfold nk
  rw [mod_step, if_neg (by rw [test_lf, h]; simp)]
theorem gk_none {b : Nat} {l : List Wt} {k : Nat} (h : NoneP l k) : gk b l (k + 1) = gk b l k :=
  gk_same fun i h' => by
    have hi : i < l.length := by simpa [gs_length] using h'
    rw [gs_bit b l i k hi, h i hi]; simp
theorem nk_none {b : Nat} {l : List Wt} {k : Nat} (hb : b.testBit k = true) (h : NoneP l k) : nk b l (k + 1) = nk b l k ||| 2 ^ k := by
  unfold nk
  rw [mod_step, if_pos (by rw [test_lf, hb, h.any]; rfl)]
theorem nk_fst {b : Nat} {l : List Wt} {k i : Nat} (h : FstP l k i) : nk b l (k + 1) = nk b l k := by
  unfold nk
  rw [mod_step, if_neg (by rw [test_lf, h.any]; simp)]
theorem gk_fst {b : Nat} {l : List Wt} {k i : Nat} (hb : b.testBit k = true) (h : FstP l k i) (h' : i < (gk b l k).length) : gk b l (k + 1) = (gk b l k).set i ((gk b l k)[i] ||| 2 ^ k) := by
  obtain ⟨hi, h1, h2⟩ := h
  refine List.ext_getElem (by simp [gk_length]) fun j j1 j2 => ?_
  have hj : j < l.length := by simpa [gk_length] using j1
  have hg : j < (gs b l).length := by simpa [gs_length] using hj
  have hno : (l.take i).any (·.2.testBit k) = false := by
    rw [List.any_eq_false]
    intro x hx
    obtain ⟨m, hm, rfl⟩ := List.getElem_of_mem hx
    have hm' : m < i := by
      have : (l.take i).length = i := by simp; omega
      omega
    rw [List.getElem_take]
    simp [h2 m hm']
  by_cases e : i = j
  · subst e
    rw [List.getElem_set_self]
    simp only [gk, List.getElem_map]
    rw [mod_step, if_pos]
    rw [gs_bit b l i k hi, hb, h1, hno]; rfl
  · rw [List.getElem_set_ne e]
    simp only [gk, List.getElem_map]
    rw [mod_step, if_neg]
    rw [gs_bit b l j k hj]
    by_cases hji : j < i
    · rw [h2 j hji]; simp
    · have : (l.take j).any (·.2.testBit k) = true := List.any_eq_true.2 ⟨l[i], by
        rw [List.mem_iff_getElem]
        exact ⟨i, by simp; omega, by simp⟩, h1⟩
      rw [this]; simp
theorem gk_lt (b : Nat) (l : List Wt) (k i : Nat) (h : i < (gk b l k).length) : (gk b l k)[i] < 2 ^ k := by
  simp only [gk, List.getElem_map]
  exact Nat.mod_lt _ (Nat.two_pow_pos k)
theorem nk_lt (b : Nat) (l : List Wt) (k : Nat) : nk b l k < 2 ^ k := Nat.mod_lt _ (Nat.two_pow_pos k)
theorem gk_all {b : Nat} (hb : b < 4294967296) (l : List Wt) : gk b l 32 = gs b l := by
  refine List.ext_getElem (by simp [gk_length, gs_length]) fun i h1 h2 => ?_
  simp only [gk, List.getElem_map]
  refine Nat.mod_eq_of_lt ?_
  rw [gs_get b l i (by simpa [gs_length] using h2)]
  exact and_lt (lf_lt hb _)
theorem nk_all {b : Nat} (hb : b < 4294967296) (l : List Wt) : nk b l 32 = lf b l := Nat.mod_eq_of_lt (lf_lt hb l)

/-! Await -/
def okc (c : Int) (m : Nat) : Bool := decide (0 < c) && decide (m ≠ 0)
def awB (b : Nat) (c : Int) (m : Nat) : Nat := if okc c m then dn b m else b
def awG (b : Nat) (c : Int) (m : Nat) : Nat := if okc c m then b &&& m else 0
/-- it waits from now on -/
def awJ (b : Nat) (W : List Wt) (c : Int) (m : Nat) : Bool := okc c m && decide (b &&& m = 0) && !W.any (·.1 == c) && decide (W.length < 4)
def awW (b : Nat) (W : List Wt) (c : Int) (m : Nat) : List Wt := if awJ b W c m then W ++ [(c, m)] else W
def awO (b : Nat) (W : List Wt) (c : Int) (m : Nat) : Bool := okc c m && (!decide (b &&& m = 0) || awJ b W c m)
theorem awB_lt {b : Nat} (h : b < 4294967296) (c : Int) (m : Nat) : awB b c m < 4294967296 := by
  unfold awB
  split
  · exact dn_lt _ h
  · exact h
theorem awG_lt {b : Nat} (h : b < 4294967296) (c : Int) (m : Nat) : awG b c m < 4294967296 := by
  unfold awG
  split
  · exact and_lt h
  · decide
theorem awW_UL {b : Nat} {W : List Wt} {c : Int} {m : Nat} (h : UL W) (hm : m < 4294967296) : UL (awW b W c m) := by
  unfold awW
  split
  · refine h.app fun x hx => ?_
    simp at hx
    subst hx
    exact hm
  · exact h
end Go.Proofs.Ytodboigmmekkpaa
