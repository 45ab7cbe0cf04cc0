/-
  Plain facts on rows of timers as lists of pairs (how many ticks behind the one ahead, whose): sums, where a key stands, where one is put, what a tick leaves. Nothing of the program.
-/
namespace Go.Proofs.Ytannkdnjbacbdaa

/-- all of them together -/
def sumA : List (Int × Int) → Int
  | [] => 0
  | x :: r => x.1 + sumA r
/-- who stands where, and comes in how many ticks, from place a and s ticks on -/
def entT : Int → Int → List (Int × Int) → List (Int × Int × Int)
  | _, _, [] => []
  | a, s, x :: r => (x.2, a, s + x.1) :: entT (a + 1) (s + x.1) r
/-- a row that may be -/
structure Bd (l : List (Int × Int)) : Prop where
  low : ∀ x ∈ l, 0 ≤ x.1
  sum : sumA l ≤ 4611686018427387904
  keys : (l.map (·.2)).Nodup

theorem sumA_append : ∀ a b : List (Int × Int), sumA (a ++ b) = sumA a + sumA b
  | [], b => by simp [sumA]
  | x :: r, b => by simp [sumA, sumA_append r b]; omega
theorem sumA_nonneg : ∀ l : List (Int × Int), (∀ x ∈ l, 0 ≤ x.1) → 0 ≤ sumA l
  | [], _ => by simp [sumA]
  | x :: r, h => by
    have := sumA_nonneg r (fun y hy => h y (by simp [hy]))
    have := h x (by simp)
    simp only [sumA]; omega
theorem sumA_take_le (l : List (Int × Int)) (h : ∀ x ∈ l, 0 ≤ x.1) (k : Nat) : 0 ≤ sumA (l.take k) ∧ sumA (l.take k) ≤ sumA l := by
  have h1 := sumA_nonneg (l.take k) (fun x hx => h x (List.mem_of_mem_take hx))
  have h2 := sumA_nonneg (l.drop k) (fun x hx => h x (List.mem_of_mem_drop hx))
  have h3 := sumA_append (l.take k) (l.drop k)
  rw [List.take_append_drop] at h3
  omega
theorem sumA_take_succ (l : List (Int × Int)) (k : Nat) (h : k < l.length) : sumA (l.take (k + 1)) = sumA (l.take k) + l[k].1 := by
  rw [List.take_succ_eq_append_getElem h, sumA_append]; simp [sumA]
theorem mem_le_sum (l : List (Int × Int)) (h : ∀ x ∈ l, 0 ≤ x.1) (k : Nat) (hk : k < l.length) : 0 ≤ l[k].1 ∧ l[k].1 ≤ sumA l := by
  have h1 := sumA_take_le l h k
  have h2 := sumA_take_le l h (k + 1)
  rw [sumA_take_succ l k hk] at h2
  have := h l[k] (List.getElem_mem hk)
  omega

theorem entT_snoc : ∀ (l : List (Int × Int)) (a s : Int) (x : Int × Int), entT a s (l ++ [x]) = entT a s l ++ [(x.2, a + l.length, s + sumA l + x.1)]
  | [], a, s, x => by simp [entT, sumA]
  | y :: r, a, s, x => by
    simp only [List.cons_append, entT, entT_snoc r, sumA, List.length_cons]
    rw [show a + 1 + (r.length : Int) = a + ((r.length + 1 : Nat) : Int) by omega, show s + y.1 + sumA r + x.1 = s + (y.1 + sumA r) + x.1 by omega]
theorem entT_take_succ (l : List (Int × Int)) (k : Nat) (h : k < l.length) : entT 0 0 (l.take (k + 1)) = entT 0 0 (l.take k) ++ [(l[k].2, (k : Int), sumA (l.take (k + 1)))] := by
  rw [sumA_take_succ l k h, List.take_succ_eq_append_getElem h, entT_snoc]
  simp [List.length_take, Nat.min_eq_left (Nat.le_of_lt h)]

theorem Bd.nil : Bd [] := ⟨by simp, by simp [sumA], by simp⟩

end Go.Proofs.Ytannkdnjbacbdaa
