/-
  What slices.Delete does with a row of timers that the call owns, by its own Go text.
-/
import Derived.Test.YtannkdnjbacbdaaSlices
namespace Go.Proofs.Ytannkdnjbacbdaa
open Go.ChangeShapes Go.WideShapes Go.ChangeAt Go.RowKit
attribute [local go_sem ↓] Go.wp_at_zero Go.wp_at_succ

theorem delete_none (p : Option Addr) (c : Nat) (l : List Tm) (base : Nat) (w : World) (hown : Own w base 50 p c l) (hl : l.length ≤ 100) (i : Nat) (hi : i ≤ l.length) :
    Calls Try.prog 23 #[.slice p l.length c, .int .i64 i, .int .i64 i] w fun e w' => e = .returned (.slice p l.length c) ∧ w' = w := by
  have hcap := own_cap hown
  go_enter Try.func23, Try.ntmps23
  cases p with
  | none =>
    obtain ⟨q1, q2⟩ : l = [] ∧ c = 0 := by
      rcases (own_rd hown).at_ with ⟨_, h1, h2⟩ | ⟨b, o, s, h, _, _⟩
      · exact ⟨h1, h2⟩
      · cases h
    subst q1 q2
    obtain rfl : i = 0 := by simpa using hi
    go_wp2
    go_ret
    exact ⟨rfl, rfl⟩
  | some a =>
    obtain ⟨ab, ao, asp⟩ := a
    go_wp2
    all_goals (go_ret; exact ⟨rfl, rfl⟩)

set_option maxHeartbeats 4000000 in
theorem delete_some (g c : Nat) (l : List Tm) (base : Nat) (w : World) (hown : Own w base 50 (some ⟨g, 0, none⟩) c l) (i j : Nat) (hij : i < j) (hj : j ≤ l.length) :
    Calls Try.prog 23 #[.slice (some ⟨g, 0, none⟩) l.length c, .int .i64 i, .int .i64 j] w fun e w' => e = .returned (.slice (some ⟨g, 0, none⟩) (l.take i ++ l.drop j).length c) ∧ Own w' base 50 (some ⟨g, 0, none⟩) c (l.take i ++ l.drop j) ∧ Below base w w' := by
  have hcap := own_cap hown
  obtain ⟨g', cur, e', h2, h3, h4, h5, h6, h7⟩ := own_open hown (by omega)
  simp only [Option.some.injEq, Addr.mk.injEq, and_true] at e'
  subst e'
  obtain ⟨i0, hi, hz0, hz1, hz2⟩ := info_parts Try.info50
  have hcells : ∀ j v, (fl l)[j]? = some v → w.cell? ⟨g, j, none⟩ = some v := fun j v hj => by
    have := World.ownsRow.cells hown (g := g) rfl j v hj
    rwa [add_plain, Nat.zero_add] at this
  obtain ⟨m, hm⟩ : ∃ m, m = (l.take i ++ l.drop j).length := ⟨_, rfl⟩
  have hm' : m = i + (l.length - j) := by rw [hm]; simp; omega
  obtain ⟨R1, hR1⟩ : ∃ R1, R1 = splice cur (i * 2) (fl (l.drop j)) := ⟨_, rfl⟩
  have hdl : (fl (l.drop j)).length = (l.length - j) * 2 := by rw [fl_length, List.length_drop]
  have hR1l : R1.length = c * 2 := by rw [hR1, splice_len _ _ _ (by rw [hdl]; omega), h6]
  have hR1t : R1.take (m * 2) = fl (l.take i ++ l.drop j) := by
    rw [hR1, show m * 2 = i * 2 + (fl (l.drop j)).length by rw [hdl]; omega, splice_take_len _ _ _ (by omega), fl_append]
    congr 1
    rw [← fl_take, ← h7, List.take_take, Nat.min_eq_left (by omega)]
  have hap : ∀ ty ad sl sc, (¬ c = j → ad = ⟨g, j * 2, none⟩) → sl = l.length - j → (Builtin.append_ #[24, 24] ty #[.slice (some ⟨g, 0, none⟩) i c, .slice (some ad) sl sc]).run Try.prog w.drew = .ok (.slice (some ⟨g, 0, none⟩) m c) (w.drew.setRow g R1.toArray) := fun ty ad sl sc had hsl => by
    subst hsl
    have := run_append_room (P := Try.prog) w.drew 24 ty 50 i0 Try.underlying24 hi g i c cur.toArray h4 ad (l.length - j) sc (fl (l.drop j)) (by rw [hdl, hz1])
      (fun k v hk => by
        by_cases hcj : c = j
        · rw [List.drop_eq_nil_of_le (by omega)] at hk
          simp [fl] at hk
        · rw [had hcj, add_plain]
          rw [← fl_drop, List.getElem?_drop] at hk
          exact hcells _ v hk)
      (fl_one _) (by omega) (by rw [hz1, hdl]; simp; omega)
    rw [this, hR1, hm']
    simp [splice, hz1]
  have hg1 : (w.drew.setRow g R1.toArray).heap[g]? = some (.cells R1.toArray 50 (0, 0)) := setRow_heap w.drew g _ _ 50 _ h4
  have hcl0 : ∀ ty c', ∃ zs : List Value, zs.length = (l.length - m) * 2 ∧ _ := fun ty c' => run_clear2 (P := Try.prog) (w.drew.setRow g R1.toArray) 24 50 ty _ Try.underlying24 Try.zeroValue50 rfl (by decide) g (m * 2) (l.length - m) c' (by omega) R1 50 hg1 (by omega)
  have hcl : ∀ ty c' n', n' = l.length - m → ∃ W2, (Builtin.clear_ #[24] ty #[.slice (some ⟨g, m * 2, none⟩) n' c']).run Try.prog (w.drew.setRow g R1.toArray) = .ok (.tuple #[]) W2 ∧ Own W2 base 50 (some ⟨g, 0, none⟩) c (l.take i ++ l.drop j) ∧ Below base w W2 := fun ty c' n' hn => by
    subst hn
    obtain ⟨zs, hzl, hrun⟩ := hcl0 ty c'
    refine ⟨_, hrun, ?_, below_setRow (below_setRow (Below.refl _ _).drew h2 _) h2 _⟩
    refine own_shut h2 (setRow_heap _ g _ _ 50 _ hg1) h5 (by rw [splice_len _ _ _ (by rw [hzl]; omega), hR1l]) (by omega) ?_
    rw [← hm, splice_take_low _ _ _ _ (Nat.le_refl _) (by omega), hR1t]
  clear hcl0
  generalize hW1 : w.drew.setRow g R1.toArray = W1 at hap hcl
  have q1 : ¬ ((i : Int) = (j : Int)) := by omega
  have q2 : ¬ (c = i) := by omega
  have q3 : ¬ (c = m) := by omega
  have q4 : ¬ (c = 0) := by omega
  have q5 : m < l.length := by omega
  have q6 : m ≤ c := by omega
  have q7 : c ≤ 9223372036854775807 := by simp only [maxLen] at h5; omega
  have q8 : i ≤ c := by omega
  have q9 : j ≤ c := by omega
  have q10 : i ≤ l.length := by omega
  have q11 : ¬ (l.length = i) := by omega
  rw [← hm]
  clear hR1 hR1t hR1l h4 h6 h7 hW1 hg1 hdl hcells hi hz0 hz1 hz2 hm hm'
  by_cases hcj : c = j
  · subst hcj
    obtain rfl : c = l.length := by omega
    have hap1 : ∀ ty, (Builtin.append_ #[24, 24] ty #[.slice (some ⟨g, 0, none⟩) i l.length, .slice (some ⟨g, 0, none⟩) 0 0]).run Try.prog w.drew = .ok (.slice (some ⟨g, 0, none⟩) m l.length) W1 := fun ty => hap ty _ _ _ (fun h => absurd rfl h) (by omega)
    clear hap
    obtain ⟨W2, hc2, hO, hB⟩ := hcl 0 (l.length - m) (l.length - m) rfl
    clear hcl
    go_enter Try.func23, Try.ntmps23
    go_wp2
    go_region_law (refine step_append_run rfl _ _ 24 24 rfl _ _ (by simp [Act.eval, Act.put]) (by simp [Act.eval, Act.put]) (hap1 _) ?_)
    go_wp2
    go_ret
    exact ⟨rfl, hO, hB⟩
  · have hap1 : ∀ ty, (Builtin.append_ #[24, 24] ty #[.slice (some ⟨g, 0, none⟩) i c, .slice (some ⟨g, j * 2, none⟩) (l.length - j) (c - j)]).run Try.prog w.drew = .ok (.slice (some ⟨g, 0, none⟩) m c) W1 := fun ty => hap ty _ _ _ (fun h => rfl) rfl
    clear hap
    obtain ⟨W2, hc2, hO, hB⟩ := hcl 0 (c - m) (l.length - m) rfl
    clear hcl
    go_enter Try.func23, Try.ntmps23
    go_wp2
    go_region_law (refine step_append_run rfl _ _ 24 24 rfl _ _ (by simp [Act.eval, Act.put]) (by simp [Act.eval, Act.put]) (hap1 _) ?_)
    go_wp2
    go_ret
    exact ⟨rfl, hO, hB⟩

/-- l without those from i on to ahead of j. -/
def cutT (l : List Tm) (i j : Nat) : List Tm := l.take i ++ l.drop j
theorem delete_any (p : Option Addr) (c : Nat) (l : List Tm) (base : Nat) (w : World) (hown : Own w base 50 p c l) (hl : l.length ≤ 100) (i j : Nat) (hij : i ≤ j) (hj : j ≤ l.length) :
    Calls Try.prog 23 #[.slice p l.length c, .int .i64 i, .int .i64 j] w fun e w' => e = .returned (.slice p (cutT l i j).length c) ∧ Own w' base 50 p c (cutT l i j) ∧ Below base w w' := by
  by_cases h : i = j
  · subst h
    have e : cutT l i i = l := by simp [cutT]
    rw [e]
    exact (delete_none p c l base w hown hl i hj).mono (by rintro e w' ⟨rfl, rfl⟩; exact ⟨rfl, hown, Below.refl _ _⟩)
  · have hcap := own_cap hown
    obtain ⟨g, cur, rfl, _⟩ := own_open hown (by omega)
    exact delete_some g c l base w hown i j (by omega) hj
end Go.Proofs.Ytannkdnjbacbdaa
