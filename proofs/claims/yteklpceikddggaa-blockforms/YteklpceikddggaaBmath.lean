/-
  Who holds up whom: plain facts of rows of spans, and of a map of them.
-/
import Derived.Test.YteklpceikddggaaLowt
namespace Go.Proofs.Yteklpceikddggaa

abbrev Sn := List (Int × Int)
/-! ### a map as a list of entries -/
def setE : List En → List Int → Int → List En
  | [], k, v => [(k, v)]
  | x :: r, k, v => if k = x.1 then (k, v) :: r else x :: setE r k v
theorem lookE_setE (k q : List Int) (v : Int) : ∀ m : List En, lookE (setE m k v) q = if q = k then some v else lookE m q
  | [] => by
    by_cases h : q = k <;> simp [setE, lookE, h]
  | x :: r => by
    have ih := lookE_setE k q v r
    by_cases h : k = x.1
    · subst h
      by_cases h2 : q = x.1 <;> simp [setE, lookE, h2]
    · rw [setE, if_neg h, lookE, lookE, ih]
      by_cases h2 : q = x.1
      · rw [if_pos h2, if_pos h2, if_neg (fun e => h (by rw [← e, h2]))]
      · rw [if_neg h2, if_neg h2]
/-- one span more, of place k -/
def addE (k : Nat) (m : List En) (x : Int × Int) : List En := setE m [x.1, (k : Int)] (max ((lookE m [x.1, (k : Int)]).getD 0) x.2)
/-- all spans of the first n places -/
def hA (SP : List Sn) : Nat → List En
  | 0 => []
  | k + 1 => (SP.getD k []).foldl (addE k) (hA SP k)
/-- does one lock it, and how long is it held at most -/
def isS (S : Sn) (s : Int) : Bool := S.any fun x => x.1 == s
def mxS (s : Int) (a : Int) (S : Sn) : Int := S.foldl (fun a x => if x.1 = s then max a x.2 else a) a
theorem look_row (k : Nat) (s p : Int) : ∀ (S : Sn) (m : List En), lookE (S.foldl (addE k) m) [s, p] = if p = (k : Int) ∧ isS S s = true then some (mxS s ((lookE m [s, p]).getD 0) S) else lookE m [s, p]
  | [], m => by simp [isS]
  | x :: r, m => by
    have ih := look_row k s p r (addE k m x)
    rw [List.foldl_cons, ih]
    have e1 : lookE (addE k m x) [s, p] = if s = x.1 ∧ p = (k : Int) then some (max ((lookE m [x.1, (k : Int)]).getD 0) x.2) else lookE m [s, p] := by
      unfold addE
      rw [lookE_setE]
      by_cases h : s = x.1 ∧ p = (k : Int)
      · rw [if_pos h, if_pos (by rw [h.1, h.2])]
      · rw [if_neg h, if_neg (fun e => h (by simpa using e))]
    by_cases hp : p = (k : Int)
    · subst hp
      by_cases hx : x.1 = s
      · subst hx
        have e2 : lookE (addE k m x) [x.1, (k : Int)] = some (max ((lookE m [x.1, (k : Int)]).getD 0) x.2) := by rw [e1, if_pos ⟨rfl, rfl⟩]
        have e3 : isS (x :: r) x.1 = true := by simp [isS]
        have e4 : mxS x.1 ((lookE m [x.1, (k : Int)]).getD 0) (x :: r) = mxS x.1 (max ((lookE m [x.1, (k : Int)]).getD 0) x.2) r := by unfold mxS; rw [List.foldl_cons, if_pos rfl]
        rw [e4]
        cases hr : isS r x.1 with
        | true => rw [if_pos ⟨rfl, rfl⟩, if_pos ⟨rfl, e3⟩, e2]; rfl
        | false =>
          rw [if_neg (by simp), if_pos ⟨rfl, e3⟩, e2]
          have : ∀ (S : Sn) (a : Int), isS S x.1 = false → mxS x.1 a S = a := by
            intro S
            induction S with
            | nil => intro a _; rfl
            | cons y t iht =>
              intro a h
              simp [isS] at h
              unfold mxS
              rw [List.foldl_cons, if_neg h.1]
              exact iht a (by simp [isS]; exact h.2)
          rw [this r _ hr]
      · have e2 : lookE (addE k m x) [s, (k : Int)] = lookE m [s, (k : Int)] := by rw [e1, if_neg (fun h => hx h.1.symm)]
        have e3 : isS (x :: r) s = isS r s := by simp [isS, hx]
        have e4 : ∀ a, mxS s a (x :: r) = mxS s a r := fun a => by unfold mxS; rw [List.foldl_cons, if_neg hx]
        rw [e2, e3, e4]
    · rw [if_neg (fun h => hp h.1), if_neg (fun h => hp h.1), e1, if_neg (fun h => hp h.2)]
theorem look_all (SP : List Sn) (s p : Int) : ∀ n : Nat, lookE (hA SP n) [s, p] = if 0 ≤ p ∧ p < (n : Int) ∧ isS (SP.getD p.toNat []) s = true then some (mxS s 0 (SP.getD p.toNat [])) else none
  | 0 => by rw [if_neg (by omega)]; rfl
  | n + 1 => by
    have ih := look_all SP s p n
    rw [hA, look_row, ih]
    by_cases hp : p = (n : Int)
    · subst hp
      have e0 : ((n : Int)).toNat = n := by simp
      rw [e0, if_neg (show ¬ (0 ≤ (n : Int) ∧ (n : Int) < (n : Int) ∧ isS (SP.getD n []) s = true) by omega)]
      cases h : isS (SP.getD n []) s with
      | true => rw [if_pos ⟨rfl, rfl⟩, if_pos ⟨by omega, by omega, rfl⟩]; rfl
      | false => rw [if_neg (by simp), if_neg (by simp)]
    · rw [if_neg (fun h => hp h.1)]
      by_cases h : 0 ≤ p ∧ p < (n : Int) ∧ isS (SP.getD p.toNat []) s = true
      · rw [if_pos h, if_pos ⟨h.1, by omega, h.2.2⟩]
      · rw [if_neg h, if_neg (fun h2 => h ⟨h2.1, by omega, h2.2.2⟩)]
theorem look_at {SP : List Sn} {n k : Nat} (hk : k < n) (s : Int) : lookE (hA SP n) [s, (k : Int)] = if isS (SP.getD k []) s = true then some (mxS s 0 (SP.getD k [])) else none := by
  rw [look_all]
  have e0 : ((k : Int)).toNat = k := by simp
  rw [e0]
  cases h : isS (SP.getD k []) s with
  | true => rw [if_pos ⟨by omega, by omega, rfl⟩, if_pos rfl]
  | false => rw [if_neg (by simp), if_neg (by simp)]
/-! ### the first place, and the longest -/
/-- C is the first of n places that lock s; 8: there is none -/
def IsCeil (SP : List Sn) (n : Nat) (s C : Int) : Prop := (C = 8 ∧ ∀ j, j < n → isS (SP.getD j []) s = false) ∨ ∃ k : Nat, k < n ∧ C = (k : Int) ∧ isS (SP.getD k []) s = true ∧ ∀ j, j < k → isS (SP.getD j []) s = false
def ceilN (SP : List Sn) (s : Int) : Nat → Nat → Int
  | 0, _ => 8
  | f + 1, k => if isS (SP.getD k []) s = true then (k : Int) else ceilN SP s f (k + 1)
def ceilv (SP : List Sn) (n : Nat) (s : Int) : Int := ceilN SP s n 0
theorem ceilN_is (SP : List Sn) (s : Int) : ∀ (f k : Nat), (∀ j, j < k → isS (SP.getD j []) s = false) → IsCeil SP (k + f) s (ceilN SP s f k)
  | 0, k, h => .inl ⟨rfl, h⟩
  | f + 1, k, h => by
    rw [ceilN]
    cases hk : isS (SP.getD k []) s with
    | true => rw [if_pos rfl]; exact .inr ⟨k, by omega, rfl, hk, h⟩
    | false =>
      rw [if_neg (by simp)]
      have := ceilN_is SP s f (k + 1) (fun j hj => by
        by_cases e : j = k
        · rw [e]; exact hk
        · exact h j (by omega))
      rwa [show k + 1 + f = k + (f + 1) by omega] at this
theorem ceil_is (SP : List Sn) (n : Nat) (s : Int) : IsCeil SP n s (ceilv SP n s) := by
  have := ceilN_is SP s n 0 (fun j hj => by omega)
  rwa [Nat.zero_add] at this
theorem IsCeil.at {SP : List Sn} {n : Nat} {s C : Int} (h : IsCeil SP n s C) {k : Nat} (hk : k < n) (h1 : isS (SP.getD k []) s = true) (h0 : ∀ j, j < k → isS (SP.getD j []) s = false) : C = (k : Int) := by
  rcases h with ⟨_, h⟩ | ⟨k', hk', rfl, h2, h3⟩
  · rw [h k hk] at h1; cases h1
  · rcases Nat.lt_trichotomy k k' with hlt | he | hgt
    · rw [h3 k hlt] at h1; cases h1
    · rw [he]
    · rw [h0 k' hgt] at h2; cases h2
theorem IsCeil.none {SP : List Sn} {n : Nat} {s C : Int} (h : IsCeil SP n s C) (h0 : ∀ j, j < n → isS (SP.getD j []) s = false) : C = 8 := by
  rcases h with ⟨e, _⟩ | ⟨k', hk', rfl, h2, _⟩
  · exact e
  · rw [h0 k' hk'] at h2; cases h2
theorem IsCeil.bd {SP : List Sn} {n : Nat} {s C : Int} (h : IsCeil SP n s C) (hn : n ≤ 8) : 0 ≤ C ∧ C ≤ 8 := by
  rcases h with ⟨e, _⟩ | ⟨k', hk', rfl, _, _⟩ <;> omega
/-- how long s is held at most at the first k places, but for i -/
def lngN (SP : List Sn) (s i : Int) : Nat → Int
  | 0 => 0
  | k + 1 => if (k : Int) = i then lngN SP s i k else max (lngN SP s i k) (mxS s 0 (SP.getD k []))
/-- how long one at place i is held up, by the semaphores below s -/
def byN (SP : List Sn) (n : Nat) (i : Int) : Nat → Int
  | 0 => 0
  | s + 1 => if ceilv SP n (s : Int) ≤ i then max (byN SP n i s) (lngN SP (s : Int) i n) else byN SP n i s
def byv (SP : List Sn) (n : Nat) (i : Int) : Int := if (n : Int) ≤ i then 0 else byN SP n i 4
/-- .. by the spans of the first k places -/
def rbS (SP : List Sn) (n : Nat) (i : Int) (a : Int) (S : Sn) : Int := S.foldl (fun a x => if ceilv SP n x.1 ≤ i then max a x.2 else a) a
def rbN (SP : List Sn) (n : Nat) (i : Int) : Nat → Int
  | 0 => 0
  | k + 1 => if (k : Int) = i then rbN SP n i k else rbS SP n i (rbN SP n i k) (SP.getD k [])
theorem mxS_le (s : Int) : ∀ (S : Sn) (a v : Int), mxS s a S ≤ v ↔ a ≤ v ∧ ∀ x ∈ S, x.1 = s → x.2 ≤ v
  | [], a, v => by simp [mxS]
  | y :: r, a, v => by
    have ih := mxS_le s r (if y.1 = s then max a y.2 else a) v
    have e : mxS s a (y :: r) = mxS s (if y.1 = s then max a y.2 else a) r := rfl
    rw [e, ih]
    by_cases h : y.1 = s
    · rw [if_pos h]
      constructor
      · rintro ⟨h1, h2⟩
        exact ⟨by omega, fun x hx hs => by rcases List.mem_cons.1 hx with rfl | hx; omega; exact h2 x hx hs⟩
      · rintro ⟨h1, h2⟩
        have := h2 y (by simp) h
        exact ⟨by omega, fun x hx hs => h2 x (by simp [hx]) hs⟩
    · rw [if_neg h]
      constructor
      · rintro ⟨h1, h2⟩
        exact ⟨h1, fun x hx hs => by rcases List.mem_cons.1 hx with rfl | hx; exact absurd hs h; exact h2 x hx hs⟩
      · rintro ⟨h1, h2⟩
        exact ⟨h1, fun x hx hs => h2 x (by simp [hx]) hs⟩
theorem lngN_le (SP : List Sn) (s i : Int) : ∀ (k : Nat) (v : Int), lngN SP s i k ≤ v ↔ 0 ≤ v ∧ ∀ j : Nat, j < k → (j : Int) ≠ i → ∀ x ∈ SP.getD j [], x.1 = s → x.2 ≤ v
  | 0, v => by simp [lngN]
  | k + 1, v => by
    have ih := lngN_le SP s i k v
    have hm := mxS_le s (SP.getD k []) 0 v
    rw [lngN]
    by_cases h : (k : Int) = i
    · rw [if_pos h, ih]
      constructor
      · rintro ⟨h1, h2⟩
        exact ⟨h1, fun j hj hn => h2 j (by by_cases e : j = k; subst e; exact absurd h hn; omega) hn⟩
      · rintro ⟨h1, h2⟩
        exact ⟨h1, fun j hj hn => h2 j (by omega) hn⟩
    · rw [if_neg h]
      constructor
      · intro hv
        have h1 := ih.1 (by omega)
        have h2 := hm.1 (by omega)
        refine ⟨h1.1, fun j hj hn => ?_⟩
        by_cases e : j = k
        · subst e; exact h2.2
        · exact h1.2 j (by omega) hn
      · rintro ⟨h1, h2⟩
        have a1 := ih.2 ⟨h1, fun j hj hn => h2 j (by omega) hn⟩
        have a2 := hm.2 ⟨h1, h2 k (by omega) h⟩
        omega
theorem byN_le (SP : List Sn) (n : Nat) (i : Int) : ∀ (m : Nat) (v : Int), byN SP n i m ≤ v ↔ 0 ≤ v ∧ ∀ j : Nat, j < n → (j : Int) ≠ i → ∀ x ∈ SP.getD j [], 0 ≤ x.1 → x.1 < (m : Int) → ceilv SP n x.1 ≤ i → x.2 ≤ v
  | 0, v => by
    constructor
    · intro h; exact ⟨h, fun j _ _ x _ h1 h2 => by omega⟩
    · rintro ⟨h, _⟩; exact h
  | m + 1, v => by
    have ih := byN_le SP n i m v
    have hl := lngN_le SP (m : Int) i n v
    rw [byN]
    by_cases h : ceilv SP n (m : Int) ≤ i
    · rw [if_pos h]
      constructor
      · intro hv
        have h1 := ih.1 (by omega)
        have h2 := hl.1 (by omega)
        refine ⟨h1.1, fun j hj hn x hx x0 x1 hc => ?_⟩
        by_cases e : x.1 = (m : Int)
        · exact h2.2 j hj hn x hx e
        · exact h1.2 j hj hn x hx x0 (by omega) hc
      · rintro ⟨h1, h2⟩
        have a1 := ih.2 ⟨h1, fun j hj hn x hx x0 x1 hc => h2 j hj hn x hx x0 (by omega) hc⟩
        have a2 := hl.2 ⟨h1, fun j hj hn x hx e => h2 j hj hn x hx (by omega) (by omega) (by rw [e]; exact h)⟩
        omega
    · rw [if_neg h, ih]
      constructor
      · rintro ⟨h1, h2⟩
        refine ⟨h1, fun j hj hn x hx x0 x1 hc => ?_⟩
        by_cases e : x.1 = (m : Int)
        · rw [e] at hc; exact absurd hc h
        · exact h2 j hj hn x hx x0 (by omega) hc
      · rintro ⟨h1, h2⟩
        exact ⟨h1, fun j hj hn x hx x0 x1 hc => h2 j hj hn x hx x0 (by omega) hc⟩
theorem rbS_le (SP : List Sn) (n : Nat) (i : Int) : ∀ (S : Sn) (a v : Int), rbS SP n i a S ≤ v ↔ a ≤ v ∧ ∀ x ∈ S, ceilv SP n x.1 ≤ i → x.2 ≤ v
  | [], a, v => by simp [rbS]
  | y :: r, a, v => by
    have ih := rbS_le SP n i r (if ceilv SP n y.1 ≤ i then max a y.2 else a) v
    have e : rbS SP n i a (y :: r) = rbS SP n i (if ceilv SP n y.1 ≤ i then max a y.2 else a) r := rfl
    rw [e, ih]
    by_cases h : ceilv SP n y.1 ≤ i
    · rw [if_pos h]
      constructor
      · rintro ⟨h1, h2⟩
        exact ⟨by omega, fun x hx hs => by rcases List.mem_cons.1 hx with rfl | hx; omega; exact h2 x hx hs⟩
      · rintro ⟨h1, h2⟩
        have := h2 y (by simp) h
        exact ⟨by omega, fun x hx hs => h2 x (by simp [hx]) hs⟩
    · rw [if_neg h]
      constructor
      · rintro ⟨h1, h2⟩
        exact ⟨h1, fun x hx hs => by rcases List.mem_cons.1 hx with rfl | hx; exact absurd hs h; exact h2 x hx hs⟩
      · rintro ⟨h1, h2⟩
        exact ⟨h1, fun x hx hs => h2 x (by simp [hx]) hs⟩
theorem rbN_le (SP : List Sn) (n : Nat) (i : Int) : ∀ (k : Nat) (v : Int), rbN SP n i k ≤ v ↔ 0 ≤ v ∧ ∀ j : Nat, j < k → (j : Int) ≠ i → ∀ x ∈ SP.getD j [], ceilv SP n x.1 ≤ i → x.2 ≤ v
  | 0, v => by simp [rbN]
  | k + 1, v => by
    have ih := rbN_le SP n i k v
    have hm := rbS_le SP n i (SP.getD k []) (rbN SP n i k) v
    rw [rbN]
    by_cases h : (k : Int) = i
    · rw [if_pos h, ih]
      constructor
      · rintro ⟨h1, h2⟩
        exact ⟨h1, fun j hj hn => h2 j (by by_cases e : j = k; subst e; exact absurd h hn; omega) hn⟩
      · rintro ⟨h1, h2⟩
        exact ⟨h1, fun j hj hn => h2 j (by omega) hn⟩
    · rw [if_neg h, hm, ih]
      constructor
      · rintro ⟨⟨h1, h2⟩, h3⟩
        refine ⟨h1, fun j hj hn => ?_⟩
        by_cases e : j = k
        · subst e; exact h3
        · exact h2 j (by omega) hn
      · rintro ⟨h1, h2⟩
        exact ⟨⟨h1, fun j hj hn => h2 j (by omega) hn⟩, h2 k (by omega) h⟩
/-- all spans are of the semaphores from 0 to 3 -/
def Low4 (SP : List Sn) : Prop := ∀ S ∈ SP, ∀ x ∈ S, 0 ≤ x.1 ∧ x.1 < 4
theorem getD_low {SP : List Sn} (h : Low4 SP) (j : Nat) : ∀ x ∈ SP.getD j [], 0 ≤ x.1 ∧ x.1 < 4 := by
  intro x hx
  by_cases hj : j < SP.length
  · rw [List.getD_eq_getElem?_getD, List.getElem?_eq_getElem hj] at hx
    exact h _ (List.getElem_mem hj) x hx
  · rw [List.getD_eq_getElem?_getD, List.getElem?_eq_none (by omega)] at hx
    cases hx
/-- both ways come to the same -/
theorem by_same {SP : List Sn} (h4 : Low4 SP) (n : Nat) (i : Int) : byN SP n i 4 = rbN SP n i n := by
  have h1 : byN SP n i 4 ≤ rbN SP n i n := (byN_le SP n i 4 _).2 ⟨((rbN_le SP n i n _).1 (Int.le_refl _)).1, fun j hj hn x hx _ _ hc => ((rbN_le SP n i n _).1 (Int.le_refl _)).2 j hj hn x hx hc⟩
  have h2 : rbN SP n i n ≤ byN SP n i 4 := (rbN_le SP n i n _).2 ⟨((byN_le SP n i 4 _).1 (Int.le_refl _)).1, fun j hj hn x hx hc => ((byN_le SP n i 4 _).1 (Int.le_refl _)).2 j hj hn x hx (getD_low h4 j x hx).1 (getD_low h4 j x hx).2 hc⟩
  omega
end Go.Proofs.Yteklpceikddggaa
