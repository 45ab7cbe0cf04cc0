/-
  Plain facts on who is told which: no flag twice, none that was not there, none lost; what each wants, ahead of it and behind it.
-/
import Derived.Test.YtodboigmmekkpaaMath
namespace Go.Proofs.Ytodboigmmekkpaa

theorem told_in : ∀ (b : Nat) (l : List Wt), ∀ t ∈ tl b l, ∀ j, t.2.testBit j = true → b.testBit j = true
  | _, [], t, ht, _, _ => by cases ht
  | b, x :: r, t, ht, j, hj => by
    have hrec : t ∈ tl (dn b x.2) r → b.testBit j = true := fun h => by
      have := told_in (dn b x.2) r t h j hj
      rw [test_dn] at this
      simp only [Bool.and_eq_true] at this
      exact this.1
    simp only [tl] at ht
    split at ht
    · exact hrec ht
    · rcases List.mem_cons.1 ht with rfl | h
      · rw [Nat.testBit_and] at hj
        simp only [Bool.and_eq_true] at hj
        exact hj.1
      · exact hrec h
theorem told_left : ∀ (b : Nat) (l : List Wt), ∀ t ∈ tl b l, ∀ j, t.2.testBit j = true → (lf b l).testBit j = false
  | _, [], t, ht, _, _ => by cases ht
  | b, x :: r, t, ht, j, hj => by
    simp only [tl] at ht
    simp only [lf]
    split at ht
    · exact told_left _ r t ht j hj
    · rcases List.mem_cons.1 ht with rfl | h
      · rw [Nat.testBit_and] at hj
        simp only [Bool.and_eq_true] at hj
        rw [test_lf, test_dn, hj.2]
        simp
      · exact told_left _ r t h j hj
theorem told_apart : ∀ (b : Nat) (l : List Wt), (tl b l).Pairwise (fun s t => ∀ j, s.2.testBit j = true → t.2.testBit j = false)
  | _, [] => List.Pairwise.nil
  | b, x :: r => by
    simp only [tl]
    split
    · exact told_apart _ r
    · refine List.Pairwise.cons (fun t ht j hj => ?_) (told_apart _ r)
      rw [Nat.testBit_and] at hj
      simp only [Bool.and_eq_true] at hj
      cases h : t.2.testBit j with
      | false => rfl
      | true =>
        have := told_in _ r t ht j h
        rw [test_dn, hj.2] at this
        simp at this
theorem told_all (j : Nat) : ∀ (b : Nat) (l : List Wt), b.testBit j = true → (lf b l).testBit j = true ∨ (tl b l).any (·.2.testBit j) = true
  | b, [], h => .inl h
  | b, x :: r, h => by
    simp only [lf, tl]
    cases hx : x.2.testBit j with
    | false =>
      rcases told_all j (dn b x.2) r (by rw [test_dn, h, hx]; rfl) with h1 | h1
      · exact .inl h1
      · split
        · exact .inr h1
        · exact .inr (by rw [List.any_cons, h1]; simp)
    | true =>
      right
      split
      · rename_i h0
        have := and_bit h0 h
        rw [hx] at this
        cases this
      · rw [List.any_cons, Nat.testBit_and, h, hx]
        rfl
theorem lf_told (b : Nat) (l : List Wt) : lf b (tl b l) = lf b l := by
  refine Nat.eq_of_testBit_eq fun j => ?_
  rw [test_lf]
  cases hb : b.testBit j with
  | false => rw [test_lf, hb]; rfl
  | true =>
    rcases told_all j b l hb with h | h
    · have : (tl b l).any (·.2.testBit j) = false := by
        rw [List.any_eq_false]
        intro t ht h'
        have := told_left b l t ht j h'
        rw [h] at this
        cases this
      rw [this, h]; rfl
    · rw [h]
      obtain ⟨t, ht, h'⟩ := List.any_eq_true.1 h
      rw [told_left b l t ht j h']
      rfl
theorem told_get (b : Nat) (l : List Wt) (i k : Nat) (hik : i < k) (hk : k < (tl b l).length) {j : Nat} (h : ((tl b l)[i]'(Nat.lt_trans hik hk)).2.testBit j = true) : ((tl b l)[k]).2.testBit j = false :=
  (List.pairwise_iff_getElem.1 (told_apart b l)) i k (Nat.lt_trans hik hk) hk hik j h
/-- each that is told has all of it still ahead of it -/
theorem told_next (b : Nat) (l : List Wt) (k : Nat) (hk : k < (tl b l).length) : ((tl b l)[k]).2 &&& lf b ((tl b l).take k) = ((tl b l)[k]).2 := by
  refine bit_in fun j hj => ?_
  rw [test_lf, told_in b l _ (List.getElem_mem hk) j hj]
  have : ((tl b l).take k).any (·.2.testBit j) = false := by
    rw [List.any_eq_false]
    intro t ht h'
    obtain ⟨i, hi, rfl⟩ := List.getElem_of_mem ht
    have hik : i < k := by
      have : ((tl b l).take k).length = k := by simp; omega
      omega
    rw [List.getElem_take] at h'
    have := told_get b l i k hik hk h'
    rw [hj] at this
    cases this
  rw [this]; rfl

/-! FlagBits -/
/-- all that was told -/
def orl : List Wt → Nat
  | [] => 0
  | x :: r => x.2 ||| orl r
theorem orl_snoc (x : Wt) : ∀ l : List Wt, orl (l ++ [x]) = orl l ||| x.2
  | [] => by simp [orl]
  | y :: r => by simp only [List.cons_append, orl]; rw [orl_snoc x r, Nat.or_assoc]
theorem test_orl (j : Nat) : ∀ l : List Wt, (orl l).testBit j = l.any (·.2.testBit j)
  | [] => by simp [orl]
  | y :: r => by simp only [orl, List.any_cons]; rw [Nat.testBit_or, test_orl j r]
/-- what is there, and what the first k were told -/
def ak (b : Nat) (l : List Wt) (k : Nat) : Nat := lf b l ||| orl ((tl b l).take k)
theorem ak_zero (b : Nat) (l : List Wt) : ak b l 0 = lf b l := by simp [ak, orl]
theorem ak_next (b : Nat) (l : List Wt) (k : Nat) (hk : k < (tl b l).length) : ak b l (k + 1) = ak b l k ||| ((tl b l)[k]).2 := by
  unfold ak
  rw [take_next _ k hk, orl_snoc, Nat.or_assoc]
theorem ak_free (b : Nat) (l : List Wt) (k : Nat) (hk : k < (tl b l).length) : ak b l k &&& ((tl b l)[k]).2 = 0 := by
  refine bit_and fun j hj => ?_
  unfold ak at hj
  rw [Nat.testBit_or, test_orl] at hj
  cases h : ((tl b l)[k]).2.testBit j with
  | false => rfl
  | true =>
    rw [told_left b l _ (List.getElem_mem hk) j h] at hj
    simp only [Bool.false_or] at hj
    obtain ⟨t, ht, h'⟩ := List.any_eq_true.1 hj
    obtain ⟨i, hi, rfl⟩ := List.getElem_of_mem ht
    have hik : i < k := by
      have : ((tl b l).take k).length = k := by simp; omega
      omega
    rw [List.getElem_take] at h'
    have := told_get b l i k hik hk h'
    rw [h] at this
    cases this
theorem ak_all (b : Nat) (l : List Wt) : ak b l (tl b l).length = b := by
  refine Nat.eq_of_testBit_eq fun j => ?_
  unfold ak
  rw [List.take_length, Nat.testBit_or, test_orl]
  cases hb : b.testBit j with
  | false =>
    have h1 : (lf b l).testBit j = false := by rw [test_lf, hb]; rfl
    have h2 : (tl b l).any (·.2.testBit j) = false := by
      rw [List.any_eq_false]
      intro t ht h'
      have := told_in b l t ht j h'
      rw [hb] at this
      cases this
    rw [h1, h2]; rfl
  | true =>
    rcases told_all j b l hb with h | h
    · rw [h]; rfl
    · rw [h]; simp
theorem ak_lt {b : Nat} (hb : b < 4294967296) {l : List Wt} (hU : UL l) (k : Nat) : ak b l k < 4294967296 := by
  have ho : ∀ m : List Wt, UL m → orl m < 4294967296 := by
    intro m
    induction m with
    | nil => intro _; decide
    | cons x r ih => intro h; exact or_lt (h x List.mem_cons_self) (ih fun y hy => h y (List.mem_cons_of_mem _ hy))
  exact or_lt (lf_lt hb l) (ho _ ((hU.tl b).take k))
/-- who waits: 1, 2 and so on, for these -/
def bW (ms : List Nat) (k : Nat) : List Wt := (List.range k).map fun (i : Nat) => ((i : Int) + 1, ms.getD i 0)
theorem bW_len (ms : List Nat) (k : Nat) : (bW ms k).length = k := by simp [bW]
theorem bW_next (ms : List Nat) (k : Nat) (hk : k < ms.length) : bW ms (k + 1) = bW ms k ++ [((k : Int) + 1, ms[k])] := by
  simp [bW, List.range_succ, hk]
theorem bW_UL {ms : List Nat} (h : ∀ m ∈ ms, m < 4294967296) (k : Nat) : UL (bW ms k) := by
  intro x hx
  simp only [bW, List.mem_map, List.mem_range] at hx
  obtain ⟨i, _, rfl⟩ := hx
  by_cases hi : i < ms.length
  · simp only [List.getD_eq_getElem?_getD, List.getElem?_eq_getElem hi, Option.getD_some]
    exact h _ (List.getElem_mem hi)
  · simp [List.getElem?_eq_none (Nat.le_of_not_lt hi)]
/-- one that is told: which, of which mask -/
theorem bW_told {ms : List Nat} {b : Nat} (k : Nat) (hk : k < (tl b (bW ms ms.length)).length) : ∃ (a : Nat) (ha : a < ms.length), ((tl b (bW ms ms.length))[k]).1 = (a : Int) + 1 ∧ ((tl b (bW ms ms.length))[k]).2 ≠ 0 ∧ dn ((tl b (bW ms ms.length))[k]).2 ms[a] = 0 := by
  obtain ⟨h0, x, hx, h1, h2⟩ := tl_mem b _ _ (List.getElem_mem hk)
  simp only [bW, List.mem_map, List.mem_range] at hx
  obtain ⟨i, hi, rfl⟩ := hx
  refine ⟨i, hi, h1.symm, h0, ?_⟩
  have e : ms.getD i 0 = ms[i] := by simp [hi]
  rw [e] at h2
  unfold dn
  rw [h2]
  exact Nat.xor_self _

theorem bW_toldN {ms : List Nat} {b n : Nat} (hn : ms.length = n) (k : Nat) (hk : k < (tl b (bW ms n)).length) : ∃ (a : Nat) (ha : a < ms.length), ((tl b (bW ms n))[k]).1 = (a : Int) + 1 ∧ ((tl b (bW ms n))[k]).2 ≠ 0 ∧ dn ((tl b (bW ms n))[k]).2 ms[a] = 0 := by
  subst hn
  exact bW_told k hk

/-! FlagOnce -/
/-- what c waits for -/
def wantOf : List Wt → Nat → Nat
  | [], _ => 0
  | x :: r, c => if x.1 = (c : Int) then x.2 else wantOf r c
/-- .. once the first k are told -/
def wantK (l T : List Wt) (k c : Nat) : Nat := if (T.take k).any (·.1 == (c : Int)) then 0 else wantOf l c
/-- each waits once -/
def Nd (l : List Wt) : Prop := (l.map (·.1)).Nodup
theorem wantOf_mem : ∀ {l : List Wt}, Nd l → ∀ x ∈ l, ∀ c : Nat, x.1 = (c : Int) → wantOf l c = x.2
  | y :: r, hn, x, hx, c, hc => by
    simp only [wantOf]
    unfold Nd at hn
    rw [List.map_cons, List.nodup_cons] at hn
    rcases List.mem_cons.1 hx with rfl | h
    · rw [if_pos hc]
    · have : y.1 ≠ (c : Int) := fun e => hn.1 (by rw [e, ← hc]; exact List.mem_map_of_mem h)
      rw [if_neg this]
      exact wantOf_mem hn.2 x h c hc
theorem wantOf_none : ∀ {l : List Wt} {c : Nat}, (∀ x ∈ l, x.1 ≠ (c : Int)) → wantOf l c = 0
  | [], _, _ => rfl
  | y :: r, c, h => by
    simp only [wantOf]
    rw [if_neg (h y List.mem_cons_self)]
    exact wantOf_none fun x hx => h x (List.mem_cons_of_mem _ hx)
theorem wantOf_snoc : ∀ (l : List Wt) (x : Wt) (c : Nat), l.any (·.1 == x.1) = false → wantOf (l ++ [x]) c = if x.1 = (c : Int) then x.2 else wantOf l c
  | [], x, c, _ => rfl
  | y :: r, x, c, h => by
    rw [List.any_cons, Bool.or_eq_false_iff] at h
    simp only [List.cons_append, wantOf]
    rw [wantOf_snoc r x c h.2]
    by_cases h1 : y.1 = (c : Int)
    · rw [if_pos h1, if_pos h1]
      have : ¬ x.1 = (c : Int) := fun e => by
        have := h.1
        rw [h1, e] at this
        simp at this
      rw [if_neg this]
    · rw [if_neg h1, if_neg h1]
theorem wantOf_lt : ∀ {l : List Wt} (_ : UL l) (c : Nat), wantOf l c < 4294967296
  | [], _, _ => by simp [wantOf]
  | y :: r, h, c => by
    simp only [wantOf]
    split
    · exact h y List.mem_cons_self
    · exact wantOf_lt (fun x hx => h x (List.mem_cons_of_mem _ hx)) c
theorem wantK_lt {l : List Wt} (h : UL l) (T : List Wt) (k c : Nat) : wantK l T k c < 4294967296 := by
  unfold wantK
  split
  · decide
  · exact wantOf_lt h c
theorem wantK_zero (l T : List Wt) (c : Nat) : wantK l T 0 c = wantOf l c := by simp [wantK]
theorem wantK_next (l T : List Wt) (k c : Nat) (hk : k < T.length) : wantK l T (k + 1) c = if (T[k]).1 = (c : Int) then 0 else wantK l T k c := by
  unfold wantK
  rw [take_next T k hk, List.any_append]
  by_cases h : (T[k]).1 = (c : Int)
  · rw [if_pos h, if_pos]; simp [h]
  · rw [if_neg h]
    have : [T[k]].any (·.1 == (c : Int)) = false := by simpa using h
    rw [this, Bool.or_false]
theorem Nd.sub {l m : List Wt} (h : Nd l) (hs : List.Sublist m l) : Nd m := List.Sublist.nodup (hs.map _) h
theorem Nd.told {l : List Wt} (h : Nd l) (b : Nat) : Nd (tl b l) := List.Sublist.nodup (tl_sub b l) h
/-- one that is told waits for it still -/
theorem wantK_told {l : List Wt} (hn : Nd l) (b k : Nat) (hk : k < (tl b l).length) (c : Nat) (hc : ((tl b l)[k]).1 = (c : Int)) : wantK l (tl b l) k c &&& ((tl b l)[k]).2 = ((tl b l)[k]).2 := by
  have hno : ((tl b l).take k).any (·.1 == (c : Int)) = false := by
    rw [List.any_eq_false]
    intro t ht
    obtain ⟨i, hi, rfl⟩ := List.getElem_of_mem ht
    have hik : i < k := by
      have : ((tl b l).take k).length = k := by simp; omega
      omega
    rw [List.getElem_take]
    have hnd := hn.told b
    unfold Nd at hnd
    have := (List.pairwise_iff_getElem.1 hnd) i k (by simp; omega) (by simpa using hk) hik
    simp only [List.getElem_map] at this
    rw [hc] at this
    simpa using this
  unfold wantK
  rw [hno]
  obtain ⟨_, x, hx, h1, h2⟩ := tl_mem b l _ (List.getElem_mem hk)
  rw [if_neg (by simp), wantOf_mem hn x hx c (h1.trans hc), Nat.and_comm]
  exact h2
theorem any_told (c : Int) : ∀ (b : Nat) (l : List Wt), Nd l → ∀ x ∈ l, x.1 = c → ((tl b l).any (·.1 == c) = true ∧ (kp b l).any (·.1 == c) = false) ∨ ((tl b l).any (·.1 == c) = false ∧ x ∈ kp b l)
  | b, y :: r, hn, x, hx, hc => by
    have hn' : y.1 ∉ r.map (·.1) ∧ Nd r := by
      unfold Nd at hn
      rw [List.map_cons, List.nodup_cons] at hn
      exact hn
    have hsubK := kp_sub (dn b y.2) r
    have hsubT := tl_sub (dn b y.2) r
    simp only [tl, kp]
    rcases List.mem_cons.1 hx with rfl | h
    · have hT : (tl (dn b x.2) r).any (·.1 == c) = false := by
        rw [List.any_eq_false]
        intro t ht h'
        have : t.1 = c := by simpa using h'
        exact hn'.1 (by rw [hc, ← this]; exact hsubT.mem (List.mem_map_of_mem ht))
      have hK : (kp (dn b x.2) r).any (·.1 == c) = false := by
        rw [List.any_eq_false]
        intro t ht h'
        have : t.1 = c := by simpa using h'
        exact hn'.1 (by rw [hc, ← this]; exact List.mem_map_of_mem (hsubK.mem ht))
      by_cases h0 : b &&& x.2 = 0
      · rw [if_pos h0, if_pos h0]
        exact .inr ⟨hT, List.mem_cons_self⟩
      · rw [if_neg h0, if_neg h0]
        refine .inl ⟨?_, hK⟩
        rw [List.any_cons]
        simp [hc]
    · have hyc : (y.1 == c) = false := by
        have : y.1 ≠ c := fun e => hn'.1 (by rw [e, ← hc]; exact List.mem_map_of_mem h)
        simpa using this
      by_cases h0 : b &&& y.2 = 0
      · rw [if_pos h0, if_pos h0]
        rcases any_told c (dn b y.2) r hn'.2 x h hc with ⟨h1, h2⟩ | ⟨h1, h2⟩
        · exact .inl ⟨h1, by rw [List.any_cons, hyc, h2]; rfl⟩
        · exact .inr ⟨h1, List.mem_cons_of_mem _ h2⟩
      · rw [if_neg h0, if_neg h0]
        rcases any_told c (dn b y.2) r hn'.2 x h hc with ⟨h1, h2⟩ | ⟨h1, h2⟩
        · exact .inl ⟨by rw [List.any_cons, h1]; simp, h2⟩
        · exact .inr ⟨by rw [List.any_cons, h1]; simpa using hyc, h2⟩
/-- behind all that are told, what each waits for is what those wait for who stay -/
theorem wantK_all {l : List Wt} (hn : Nd l) (b c : Nat) : wantK l (tl b l) (tl b l).length c = wantOf (kp b l) c := by
  unfold wantK
  rw [List.take_length]
  by_cases h : ∃ x ∈ l, x.1 = (c : Int)
  · obtain ⟨x, hx, hc⟩ := h
    rcases any_told c b l hn x hx hc with ⟨h1, h2⟩ | ⟨h1, h2⟩
    · rw [h1, if_pos rfl, wantOf_none]
      intro y hy e
      rw [List.any_eq_false] at h2
      exact h2 y hy (by simpa using e)
    · rw [h1, if_neg (by simp), wantOf_mem hn x hx c hc, wantOf_mem (hn.sub (kp_sub b l)) x h2 c hc]
  · have h1 : ∀ x ∈ l, x.1 ≠ (c : Int) := fun x hx e => h ⟨x, hx, e⟩
    rw [wantOf_none h1, wantOf_none fun x hx => h1 x ((kp_sub b l).mem hx)]
    simp
/-- nobody waits for what is there -/
def Fr (b : Nat) (l : List Wt) : Prop := ∀ x ∈ l, x.2 &&& b = 0
theorem Fr.want : ∀ {b : Nat} {l : List Wt}, Fr b l → ∀ c, wantOf l c &&& b = 0
  | _, [], _, _ => by simp [wantOf]
  | b, y :: r, h, c => by
    simp only [wantOf]
    split
    · exact h y List.mem_cons_self
    · exact Fr.want (fun x hx => h x (List.mem_cons_of_mem _ hx)) c
theorem fr_raise (b : Nat) (l : List Wt) : Fr (lf b l) (kp b l) := fun x hx => by
  refine bit_and fun j hj => ?_
  rw [test_lf]
  have : l.any (·.2.testBit j) = true := List.any_eq_true.2 ⟨x, (kp_sub b l).mem hx, hj⟩
  rw [this]; simp
/-- what holds of flags that came of raises and awaits -/
structure Gd (b : Nat) (l : List Wt) : Prop where
  nd : Nd l
  fr : Fr b l
  cl : ∀ x ∈ l, 1 ≤ x.1 ∧ x.1 ≤ 6
  le : l.length ≤ 4
  u : UL l
  b32 : b < 4294967296
theorem Gd.nil : Gd 0 [] := ⟨List.nodup_nil, fun x hx => (by cases hx), fun x hx => (by cases hx), by simp, UL.nil, by decide⟩
theorem Gd.raise {b : Nat} {l : List Wt} (h : Gd b l) {m : Nat} (hm : m < 4294967296) : Gd (lf (b ||| m) l) (kp (b ||| m) l) :=
  ⟨h.nd.sub (kp_sub _ _), fr_raise _ _, fun x hx => h.cl x ((kp_sub _ _).mem hx), Nat.le_trans (kp_le _ _) h.le, h.u.kp _, lf_lt (or_lt h.b32 hm) _⟩
theorem Gd.await {b : Nat} {l : List Wt} (h : Gd b l) {c : Int} {m : Nat} (hm : m < 4294967296) (h1 : 1 ≤ c) (h6 : c ≤ 6) : Gd (awB b c m) (awW b l c m) := by
  have hfr : Fr (awB b c m) l := fun x hx => bit_and fun j hj => by
    have := and_bit (h.fr x hx) hj
    unfold awB
    split
    · rw [test_dn, this]; rfl
    · exact this
  unfold awW
  cases hJ : awJ b l c m with
  | false => exact ⟨h.nd, hfr, h.cl, h.le, h.u, awB_lt h.b32 _ _⟩
  | true =>
    rw [if_pos rfl]
    unfold awJ at hJ
    simp only [Bool.and_eq_true, decide_eq_true_eq, Bool.not_eq_true'] at hJ
    obtain ⟨⟨⟨hk, hz⟩, hany⟩, hl⟩ := hJ
    have hb : awB b c m = b := by unfold awB; rw [hk]; exact dn_zero hz
    refine ⟨?_, ?_, ?_, by simp; omega, h.u.app fun x hx => by simp at hx; subst hx; exact hm, awB_lt h.b32 _ _⟩
    · unfold Nd
      rw [List.map_append, List.nodup_append]
      refine ⟨h.nd, by simp, ?_⟩
      intro a ha d hd
      simp at hd
      subst hd
      obtain ⟨x, hx, rfl⟩ := List.mem_map.1 ha
      rw [List.any_eq_false] at hany
      have := hany x hx
      simpa using this
    · rw [hb]
      intro x hx
      rcases List.mem_append.1 hx with h' | h'
      · exact h.fr x h'
      · simp at h'; subst h'; rw [Nat.and_comm]; exact hz
    · intro x hx
      rcases List.mem_append.1 hx with h' | h'
      · exact h.cl x h'
      · simp at h'; subst h'; exact ⟨h1, h6⟩
end Go.Proofs.Ytodboigmmekkpaa
