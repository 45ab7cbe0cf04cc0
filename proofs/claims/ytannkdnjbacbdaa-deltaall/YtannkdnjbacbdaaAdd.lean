/-
  What Add of package delta does with a row of timers that may be: a new row with one more in its place, or the row as it was, and no.
-/
import Derived.Test.YtannkdnjbacbdaaSmall
import Derived.Test.YtannkdnjbacbdaaInsert
namespace Go.Proofs.Ytannkdnjbacbdaa
open Go.ChangeShapes Go.WideShapes Go.ChangeAt Go.RowKit
attribute [local go_sem ↓] Go.wp_at_zero Go.wp_at_succ

theorem own_below {w w' : World} {base : Nat} {e : TypeId} {p : Option Addr} {c : Nat} {l : List Tm} (h : Own w base e p c l) (hb : Below w.heap.size w w') : Own w' base e p c l :=
  World.ownsRow.kept h (row := none) ⟨hb.os, hb.tape, hb.output, hb.size, fun k hk _ => hb.block k hk⟩ (by cases hv : (Value.slice p l.length c).ownBlock <;> simp)

theorem own_cells {w : World} {base : Nat} {e : TypeId} {g c : Nat} {l : List Tm} (h : Own w base e (some ⟨g, 0, none⟩) c l) (i : Nat) (hi : i < l.length) :
    w.cell? ⟨g, i * 2, none⟩ = some (.int .i64 l[i].1) ∧ w.frozen? ⟨g, i * 2, none⟩ = false ∧ base ≤ g ∧ g < w.heap.size := by
  have hcap := own_cap h
  obtain ⟨g', cur, e', h2, h3, h4, _⟩ := own_open h (by omega)
  simp only [Option.some.injEq, Addr.mk.injEq, and_true] at e'
  subst e'
  obtain ⟨b, o, e'', _, hc, _⟩ := (own_rd h).cells i hi
  simp only [Option.some.injEq, Addr.mk.injEq, and_true] at e''
  obtain ⟨rfl, rfl⟩ := e''
  exact ⟨by simpa using hc, by simp [World.frozen?, h4], h2, h3⟩
theorem own_head {w : World} {base : Nat} {e : TypeId} {p : Option Addr} {c : Nat} {l : List Tm} (h : Own w base e p c l) (hl : 0 < l.length) : ∃ g, p = some ⟨g, 0, none⟩ := by
  have hcap := own_cap h
  obtain ⟨g, _, e, _⟩ := own_open h (by omega)
  exact ⟨g, e⟩

theorem insert_n (p : Option Addr) (c : Nat) (l : List Tm) (base : Nat) (w : World) (N : Nat) (hN : l.length = N) (hown : Own w base 50 p c l) (hbase : base ≤ w.heap.size) (hl : N ≤ 100) (i : Nat) (hin : i ≤ N) (vb : Nat) (a k : Int)
    (hv : w.heap[vb]? = some (.cells #[.int .i64 a, .int .i64 k] 50 (0, 0))) (hne : ∀ g, p = some ⟨g, 0, none⟩ → vb ≠ g) :
    Calls Try.prog 20 #[.slice p N c, .int .i64 i, .slice (some ⟨vb, 0, none⟩) 1 1] w fun e w' => ∃ p' c', e = .returned (.slice p' (N + 1) c') ∧ Own w' base 50 p' c' (insT l i (a, k)) ∧ Below base w w' := by
  subst hN
  exact insert_any p c l base w hown hbase hl i hin vb (a, k) hv hne

theorem heap_set_new (w : World) (a : Addr) (v : Value) (o : Obj) : ((w.setCell a v).alloc o).heap[w.heap.size]? = some o := by
  have := heap_alloc_new (w.setCell a v) o
  simpa using this

/-- l with d ticks less for the one at place a. -/
def subAt (l : List Tm) (a : Nat) (d : Int) : List Tm := l.modify a (fun x => (x.1 - d, x.2))
def addT (l : List Tm) (n k : Int) : List Tm := insT (subAt l (behT l n) (n - sumA (l.take (behT l n)))) (behT l n) (n - sumA (l.take (behT l n)), k)
def okAdd (l : List Tm) (n k : Int) : Bool := timeB n && !hasT l k && decide (l.length < 64)
def resAdd (l : List Tm) (n k : Int) : List Tm := if okAdd l n k then addT l n k else l

/-- The pair of a row and a yes or no. -/
def Told (w w' : World) (e : Ending) (l : List Tm) (b : Bool) : Prop :=
  ∃ p c, e = .returned (.tuple #[.slice p l.length c, .bool b]) ∧ Rd w' p c l ∧ Below w.heap.size w w'

theorem ret_told {p : Option Addr} {n m c : Nat} {b : Bool} (h : n = m) : Ending.returned (.tuple #[.slice p n c, .bool b]) = .returned (.tuple #[.slice p m c, .bool b]) := by rw [h]
theorem subAt_length (l : List Tm) (a : Nat) (d : Int) : (subAt l a d).length = l.length := by simp [subAt]
theorem subAt_set (l : List Tm) (a : Nat) (h : a < l.length) (d : Int) : subAt l a d = l.set a (l[a].1 - d, l[a].2) := by
  apply List.ext_getElem (by simp [subAt])
  intro i h1 h2
  simp only [subAt, List.getElem_modify, List.getElem_set]
  split
  · rename_i e; subst e; rfl
  · rfl
theorem addT_length (l : List Tm) (n k : Int) : (addT l n k).length = l.length + 1 := by
  unfold addT
  rw [insT_length _ _ _ (by rw [subAt_length]; exact behT_le _ _), subAt_length]

theorem behT_next : ∀ (l : List Tm) (n : Int) (h : behT l n < l.length), n - sumA (l.take (behT l n)) < l[behT l n].1
  | [], n, h => by simp at h
  | x :: r, n, h => by
    by_cases hx : x.1 ≤ n
    · have e : behT (x :: r) n = behT r (n - x.1) + 1 := by simp [behT, hx]
      have h' : behT r (n - x.1) < r.length := by rw [e] at h; simpa using h
      have := behT_next r (n - x.1) h'
      simp only [e, List.take_succ_cons, sumA, List.getElem_cons_succ]
      omega
    · have e : behT (x :: r) n = 0 := by simp [behT, hx]
      simp only [e, List.take_zero, sumA, List.getElem_cons_zero]
      omega

theorem behT_sum : ∀ (l : List Tm) (n : Int), 0 ≤ n → sumA (l.take (behT l n)) ≤ n
  | [], n, h => by simpa [sumA] using h
  | x :: r, n, h => by
    by_cases hx : x.1 ≤ n
    · have e : behT (x :: r) n = behT r (n - x.1) + 1 := by simp [behT, hx]
      have := behT_sum r (n - x.1) (by omega)
      rw [e, List.take_succ_cons]
      simp only [sumA]; omega
    · have e : behT (x :: r) n = 0 := by simp [behT, hx]
      rw [e]; simpa [sumA] using h

theorem add_no (p : Option Addr) (c : Nat) (l : List Tm) (w : World) (hr : Rd w p c l) (hl : l.length ≤ 100) (hB : Bd l) (n k : Int) (n0 : -9223372036854775808 ≤ n) (n1 : n ≤ 9223372036854775807) (hno : okAdd l n k = false) :
    Calls Try.prog 8 #[.slice p l.length c, .int .i64 n, .int .i64 k] w fun e w' => Told w w' e l false := by
  have hcases : timeB n = false ∨ (timeB n = true ∧ hasT l k = true) ∨ (timeB n = true ∧ hasT l k = false ∧ decide (64 ≤ (l.length : Int)) = true) := by
    unfold okAdd at hno
    cases h1 : timeB n <;> cases h2 : hasT l k <;> simp [h1, h2] at hno <;> simp
    omega
  rcases hcases with h1 | ⟨h1, h2⟩ | ⟨h1, h2, h3⟩
  all_goals
    go_enter Try.func8, Try.ntmps8
    go_wp2_with (first
      | (go_at_call 16; refine (clone_any _ _ _ _ hr hl).mono ?_; rintro e w1 ⟨p1, c1, rfl, ho1, hb1⟩)
      | (go_at_call 17; refine (isTime_any _ _ n0 n1).mono ?_; rintro e w2 ⟨rfl, rfl⟩)
      | (go_at_call 18; refine (has_any _ _ _ _ (hr.below hb1) hl hB k).mono ?_; rintro e w3 ⟨rfl, hb3⟩))
    go_ret2
    first
      | exact ⟨_, _, rfl, own_rd ho1, hb1⟩
      | exact ⟨_, _, rfl, (own_rd ho1).below hb3, bel_call hb1 (Nat.le_refl _) hb3⟩

set_option maxHeartbeats 1000000 in
theorem add_yes (p : Option Addr) (c : Nat) (l : List Tm) (w : World) (hr : Rd w p c l) (hB : Bd l) (n k : Int) (n0 : -9223372036854775808 ≤ n) (n1 : n ≤ 9223372036854775807) (hyes : okAdd l n k = true) :
    Calls Try.prog 8 #[.slice p l.length c, .int .i64 n, .int .i64 k] w fun e w' => Told w w' e (addT l n k) true := by
  obtain ⟨h1, h2, hl⟩ : timeB n = true ∧ hasT l k = false ∧ l.length < 64 := by
    unfold okAdd at hyes
    simp at hyes
    exact ⟨hyes.1.1, hyes.1.2, hyes.2⟩
  have h3 : decide (64 ≤ (l.length : Int)) = false := by simp; omega
  have hn : 0 ≤ n ∧ n ≤ 4611686018427387904 := by unfold timeB at h1; simpa using h1
  have hle := behT_le l n
  have hs := sumA_take_le l hB.low (behT l n)
  have hlen := addT_length l n k
  have HT : Hid (addT l n k = insT (subAt l (behT l n) (n - sumA (l.take (behT l n)))) (behT l n) (n - sumA (l.take (behT l n)), k)) := (rfl : addT l n k = _)
  have hnx := behT_next l n
  have hbs := behT_sum l n hn.1
  have hbeh := fun (w1 : World) (h : Rd w1 p c l) => behind_any p c l w1 h (by omega) hB n hn.1 n1
  generalize behT l n = A at *
  generalize sumA (l.take A) = S at *
  obtain ⟨D, hD⟩ : ∃ D, D = n - S := ⟨_, rfl⟩
  rw [← hD] at HT hnx hbeh
  have hsum := hB.sum
  have hD0 : 0 ≤ D := by omega
  have hD1 : D ≤ 4611686018427387904 := by omega
  clear hD
  by_cases hA : A < l.length
  · have hx := hnx hA
    have hm := mem_le_sum l hB.low A hA
    have hm1 : 0 ≤ l[A].1 := hm.1
    have hm2 : l[A].1 ≤ 4611686018427387904 := by omega
    clear hm
    have hww : wrap64 (l[A].1 - D) = l[A].1 - D := w64 _ (by omega)
    have HQ : Hid (subAt l A D = l.set A (l[A].1 - D, l[A].2)) := subAt_set l A hA D
    have hA' : decide ((A : Int) < (l.length : Int)) = true := by simp; omega
    go_enter Try.func8, Try.ntmps8
    go_wp2_with (first
      | (go_at_call 16; refine (clone_any _ _ _ _ hr (by omega)).mono ?_; rintro e w1 ⟨p1, c1, rfl, ho1, hb1⟩; obtain ⟨g, rfl⟩ := own_head ho1 (by omega))
      | (go_at_call 17; refine (isTime_any _ _ n0 n1).mono ?_; rintro e w2 ⟨rfl, rfl⟩)
      | (go_at_call 18; refine (has_any _ _ _ _ (hr.below hb1) (by omega) hB k).mono ?_; rintro e w3 ⟨rfl, hb3⟩; have ho3 := own_below ho1 hb3; obtain ⟨hc3, hf3, hg3, hz3⟩ := own_cells ho3 A hA; have ho4 := own_setAt ho3 A hA (l[A].1 - D); have hbw := bel_call hb1 (Nat.le_refl _) hb3; have ho5 := HQ.out ▸ ho4)
      | (go_at_call 19; refine (hbeh _ (hr.below (bel_call hb1 (Nat.le_refl _) hb3))).mono ?_; rintro e w4 ⟨rfl, rfl, hSn⟩)
      | (go_at_call 20; refine (insert_n _ _ _ w.heap.size _ l.length (subAt_length l A D) (own_below ho5 ((Below.refl _ _).alloc (by simp) _)) (by have := hbw.size; simp; omega) (by omega) A hle w4.heap.size D k (heap_set_new _ _ _ _) (by rintro g' e'; simp at e'; omega)).mono ?_; rintro e w5 ⟨p5, c5, rfl, ho6, hb6⟩))
    go_ret2
    rw [← HT.out] at ho6
    refine ⟨p5, c5, ret_told hlen.symm, own_rd ho6, ?_⟩
    exact ((hbw.setCell hg3 _).alloc (by have := hbw.size; simp; omega) _).trans hb6
  · obtain rfl : A = l.length := by omega
    have HQ : Hid (subAt l l.length D = l) := (by
      apply List.ext_getElem (by simp [subAt])
      intro i h1 h2
      simp only [subAt, List.getElem_modify]
      rw [if_neg (by omega)] : subAt l l.length D = l)
    go_enter Try.func8, Try.ntmps8
    go_wp2_with (first
      | (go_at_call 16; refine (clone_any _ _ _ _ hr (by omega)).mono ?_; rintro e w1 ⟨p1, c1, rfl, ho1, hb1⟩)
      | (go_at_call 17; refine (isTime_any _ _ n0 n1).mono ?_; rintro e w2 ⟨rfl, rfl⟩)
      | (go_at_call 18; refine (has_any _ _ _ _ (hr.below hb1) (by omega) hB k).mono ?_; rintro e w3 ⟨rfl, hb3⟩; have ho3 := own_below ho1 hb3; have hbw := bel_call hb1 (Nat.le_refl _) hb3; have hlt3 := World.ownsRow.lt ho3)
      | (go_at_call 19; refine (hbeh _ (hr.below (bel_call hb1 (Nat.le_refl _) hb3))).mono ?_; rintro e w4 ⟨rfl, rfl, hSn⟩)
      | (go_at_call 20; refine (insert_n _ _ _ w.heap.size _ l.length rfl (own_below ho3 ((Below.refl _ _).alloc (Nat.le_refl _) _)) (by have := hbw.size; simp; omega) (by omega) l.length (Nat.le_refl _) w4.heap.size D k (heap_alloc_new _ _) (by rintro g' rfl; have := (hlt3 g' rfl).2; omega)).mono ?_; rintro e w5 ⟨p5, c5, rfl, ho6, hb6⟩))
    go_ret2
    rw [HQ.out] at HT
    rw [← HT.out] at ho6
    refine ⟨p5, c5, ret_told hlen.symm, own_rd ho6, ?_⟩
    exact (hbw.alloc hbw.size _).trans hb6

theorem delta_add (p : Option Addr) (c : Nat) (l : List Tm) (w : World) (hr : Rd w p c l) (hl : l.length ≤ 100) (hB : Bd l) (n k : Int) (n0 : -9223372036854775808 ≤ n) (n1 : n ≤ 9223372036854775807) :
    Calls Try.prog 8 #[.slice p l.length c, .int .i64 n, .int .i64 k] w fun e w' => Told w w' e (resAdd l n k) (okAdd l n k) := by
  unfold resAdd
  cases h : okAdd l n k with
  | false => exact add_no p c l w hr hl hB n k n0 n1 h
  | true => exact add_yes p c l w hr hB n k n0 n1 h
end Go.Proofs.Ytannkdnjbacbdaa
