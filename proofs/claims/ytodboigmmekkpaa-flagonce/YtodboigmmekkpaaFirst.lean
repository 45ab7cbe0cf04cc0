/-
  What first hands back: the place of the first that waits for a flag, or no.
-/
import Derived.Test.YtodboigmmekkpaaElts
import Derived.Laws.ShiftsVarLaws
namespace Go.Proofs.Ytodboigmmekkpaa
open Go.ChangeShapes Go.WideShapes Go.ChangeAt Go.RowKit
attribute [local go_sem ↓] Go.wp_at_zero Go.wp_at_succ

theorem bit_val {m : Nat} (k : Nat) (hm : m < 4294967296) : bits .and .u32 ((m : Int) / 2 ^ k) 1 = ((m.testBit k).toNat : Int) := by
  have e : ((m : Int) / 2 ^ k) = ((m / 2 ^ k : Nat) : Int) := by simp
  have hl : m / 2 ^ k ≤ m := Nat.div_le_self _ _
  rw [e]
  have := u32_and_nat (m / 2 ^ k) 1 (by omega) (by decide)
  rw [nat_mask1] at this
  rw [Nat.toNat_testBit]
  exact this
theorem bit_ne {m : Nat} (k : Nat) (hm : m < 4294967296) : (bits .and .u32 ((m : Int) / 2 ^ k) 1 != 0) = m.testBit k := by
  rw [bit_val k hm]
  cases m.testBit k <;> rfl
theorem bit_eq {m : Nat} (k : Nat) (hm : m < 4294967296) : (bits .and .u32 ((m : Int) / 2 ^ k) 1 == 0) = !m.testBit k := by
  rw [bit_val k hm]
  cases m.testBit k <;> rfl
theorem first_any (p : Option Addr) (c : Nat) (l : List Wt) (k : Nat) (w : World) (h : Rd eW w p c l) (hU : UL l) (n : Nat) (hn : l.length = n) (hn9 : n ≤ 1000) (hk : k < 32) :
    Calls Try.prog 23 #[.slice p n c, .int .i64 k] w fun e w' => ((∃ i : Nat, FstP l k i ∧ e = .returned (.tuple #[.int .i64 i, .bool true])) ∨ (NoneP l k ∧ e = .returned (.tuple #[.int .i64 0, .bool false]))) ∧ Below w.heap.size w w' := by
  have HN : Hid (l.length = n) := hn
  have HU : Hid (UL l) := hU
  clear hn hU
  go_enter Try.func23, Try.ntmps23
  go_wp2
  go_loopw [6, 7, 10] (fun _ _ i wr => ∃ j : Nat, j ≤ n ∧ i = .int .i64 j ∧ Below w.heap.size w wr ∧ ∀ a (ha : a < l.length), a < j → (l[a]).2.testBit k = false) (fun _ _ i _ => n - (intOf i).toNat)
  case atStart => exact ⟨0, Nat.zero_le _, rfl, Below.refl _ _, fun a _ ha => absurd ha (Nat.not_lt_zero _)⟩
  case round =>
    obtain ⟨j, hj, rfl, hbw, hall⟩ := hrel
    have HL : Hid (∀ a (ha : a < l.length), a < j → (l[a]).2.testBit k = false) := hall
    clear hall
    by_cases hlt : j < n
    · have hjl : j < l.length := by rw [HN.out]; exact hlt
      obtain ⟨b, o, rfl, hb, hc0, hc1⟩ := (h.below hbw).wt j hjl
      have hM := HU.out.get j hjl
      obtain ⟨m, hm⟩ : ∃ m, (l[j]).2 = m := ⟨_, rfl⟩
      have HM : Hid ((l[j]).2 = m) := hm
      rw [hm] at hc1 hM
      clear hm
      generalize (l[j]).1 = x at hc0
      have hd := bit_ne k hM
      cases ht : m.testBit k with
      | true =>
        rw [ht] at hd
        go_wp2
        go_ret2
        exact ⟨.inl ⟨j, ⟨hjl, by rw [HM.out]; exact ht, fun a ha => HL.out a _ ha⟩, rfl⟩, hbw.alloc hbw.size _⟩
      | false =>
        rw [ht] at hd
        have HT : Hid (m.testBit k = false) := ht
        clear ht
        go_wp2
        go_roundw
        case rel => exact ⟨j + 1, by omega, by go_num, hbw.alloc hbw.size _, fun a ha hlt => by
          by_cases e : a = j
          · subst e; rw [HM.out]; exact HT.out
          · exact HL.out a ha (by omega)⟩
        case measure => simp [intOf]; omega
    · have hjn : j = n := by omega
      subst hjn
      go_wp2
      go_ret2
      exact ⟨.inr ⟨fun a ha => HL.out a ha (by rw [← HN.out]; exact ha), rfl⟩, hbw⟩
theorem FstP.uniq {l : List Wt} {k i j : Nat} (h : FstP l k i) (h' : FstP l k j) : i = j := by
  obtain ⟨h1, h2, h3⟩ := h
  obtain ⟨k1, k2, k3⟩ := h'
  rcases Nat.lt_trichotomy i j with h | h | h
  · have := k3 i h; rw [h2] at this; cases this
  · exact h
  · have := h3 j h; rw [k2] at this; cases this
theorem FstP.not_none {l : List Wt} {k i : Nat} (h : FstP l k i) : ¬ NoneP l k := fun h' => by
  obtain ⟨h1, h2, _⟩ := h
  have := h' i h1
  rw [h2] at this
  cases this
theorem fst_ex (k : Nat) : ∀ l : List Wt, (∃ i, FstP l k i) ∨ NoneP l k
  | [] => .inr fun j hj => by simp at hj
  | x :: r => by
    cases hx : x.2.testBit k with
    | true => exact .inl ⟨0, by simp, hx, fun j hj => by omega⟩
    | false =>
      rcases fst_ex k r with ⟨i, h1, h2, h3⟩ | h
      · refine .inl ⟨i + 1, by simpa using h1, h2, fun j hj => ?_⟩
        cases j with
        | zero => exact hx
        | succ j => exact h3 j (by omega)
      · refine .inr fun j hj => ?_
        cases j with
        | zero => exact hx
        | succ j => exact h j (by simpa using hj)
theorem first_yes (p : Option Addr) (c : Nat) (l : List Wt) (k : Nat) (w : World) (h : Rd eW w p c l) (hU : UL l) (n : Nat) (hn : l.length = n) (hn9 : n ≤ 1000) (hk : k < 32) (i : Nat) (hF : FstP l k i) :
    Calls Try.prog 23 #[.slice p n c, .int .i64 k] w fun e w' => e = .returned (.tuple #[.int .i64 i, .bool true]) ∧ Below w.heap.size w w' :=
  (first_any p c l k w h hU n hn hn9 hk).mono fun e w' ⟨h1, h2⟩ => by
    rcases h1 with ⟨j, hj, rfl⟩ | ⟨hno, _⟩
    · rw [hF.uniq hj]; exact ⟨rfl, h2⟩
    · exact absurd hno hF.not_none
theorem first_no (p : Option Addr) (c : Nat) (l : List Wt) (k : Nat) (w : World) (h : Rd eW w p c l) (hU : UL l) (n : Nat) (hn : l.length = n) (hn9 : n ≤ 1000) (hk : k < 32) (hF : NoneP l k) :
    Calls Try.prog 23 #[.slice p n c, .int .i64 k] w fun e w' => e = .returned (.tuple #[.int .i64 0, .bool false]) ∧ Below w.heap.size w w' :=
  (first_any p c l k w h hU n hn hn9 hk).mono fun e w' ⟨h1, h2⟩ => by
    rcases h1 with ⟨j, hj, rfl⟩ | ⟨_, rfl⟩
    · exact absurd hF hj.not_none
    · exact ⟨rfl, h2⟩
end Go.Proofs.Ytodboigmmekkpaa
