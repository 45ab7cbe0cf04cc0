/-
  What TakeCode of the document's answer tells.
-/
import Derived.Test.YthkkojoanbeegaaTakes
namespace Go.Proofs.Ythkkojoanbeegaa
open Go.ChangeShapes Go.WideShapes Go.ChangeAt Go.RowKit
attribute [local go_sem ↓] Go.wp_at_zero Go.wp_at_succ

set_option maxHeartbeats 2000000 in
theorem takeCode_short (p : Option Addr) (c : Nat) (b : List Int) (w : World) (hr : Rd eBy w p c b) (n : Nat) (hn : b.length = n) (hle : n ≤ 1000) (hbd : ∀ x ∈ b, 0 ≤ x ∧ x ≤ 255) (hno : lenOk b = false) :
    Calls Try.prog 13 #[.slice p n c] w fun e w' => TakeSays w b e w' := by
  by_cases h0 : n = 0
  · subst h0
    go_enter Try.func13, Try.ntmps13
    go_wp2
    go_ret2
    exact says_no (okT_len hno) (Below.refl _ _)
  · obtain ⟨bb, o, rfl, hbz, hc⟩ := hr.bytes (by omega)
    have c0 := hc 0 (by omega)
    rw [Nat.add_zero] at c0
    have HO : Hid (okT b = false) := okT_len hno
    have hx : ¬ (b.getD 0 0 ≤ 24 ∧ (b.length : Int) = 1 + 7 * b.getD 0 0) := fun h => by
      rw [(lenOk_iff (by omega)).2 h] at hno
      cases hno
    have g : 0 ≤ b.getD 0 0 ∧ b.getD 0 0 ≤ 255 := by
      rw [List.getD_eq_getElem?_getD, List.getElem?_eq_getElem (show 0 < b.length by omega)]
      exact hbd _ (List.getElem_mem _)
    obtain ⟨g0, g1⟩ := g
    rw [hn] at hx
    clear hno hc hr hbd hn
    generalize b.getD 0 0 = x at *
    have z : decide ((n : Int) < 1) = false := by simp; omega
    have i0 : 0 < n := by omega
    have j0 : (0 : Int) < n := by omega
    by_cases h24 : x ≤ 24
    · have d1 : decide (24 < x) = false := by simp; omega
      have d2 : ((n : Int) == 1 + 7 * x) = false := by simp; omega
      clear hx
      go_enter Try.func13, Try.ntmps13
      go_wp2
      go_ret2
      exact says_no HO.out (Below.refl _ _)
    · have d1 : decide (24 < x) = true := by simp; omega
      clear hx
      go_enter Try.func13, Try.ntmps13
      go_wp2
      go_ret2
      exact says_no HO.out (Below.refl _ _)

set_option maxHeartbeats 4000000 in
theorem takeCode_long (p : Option Addr) (c : Nat) (b : List Int) (w : World) (hr : Rd eBy w p c b) (n : Nat) (hn : b.length = n) (hbd : ∀ x ∈ b, 0 ≤ x ∧ x ≤ 255) (hok : lenOk b = true) :
    Calls Try.prog 13 #[.slice p n c] w fun e w' => TakeSays w b e w' := by
  have hn0 : 0 < b.length := by
    rcases Nat.eq_zero_or_pos b.length with h | h
    · rw [List.length_eq_zero_iff.1 h] at hok; cases hok
    · exact h
  have hcap := hr.cap
  have hr0 := hr
  obtain ⟨bb, o, rfl, hbz, hc⟩ := hr.bytes hn0
  have c0 := hc 0 hn0
  rw [Nat.add_zero] at c0
  have hx := (lenOk_iff hn0).1 hok
  have g : 0 ≤ b.getD 0 0 ∧ b.getD 0 0 ≤ 255 := by
    rw [List.getD_eq_getElem?_getD, List.getElem?_eq_getElem hn0]
    exact hbd _ (List.getElem_mem _)
  obtain ⟨g0, g1⟩ := g
  obtain ⟨m, hm⟩ := Int.eq_ofNat_of_zero_le g0
  have HM : Hid ((b.getD 0 0).toNat = m) := by show _ = _; rw [hm]; rfl
  rw [hm] at hx c0
  clear g0 g1 hm hc
  obtain ⟨hx1, hx2⟩ := hx
  have hm24 : m ≤ 24 := by omega
  have hcc : n ≤ c := by omega
  have n1 : 1 + 7 * m ≤ n := by omega
  have n2 : n ≤ 1 + 7 * m := by omega
  have HL : Hid (b.length = n) := hn
  have HOK : Hid (lenOk b = true) := hok
  have z : decide ((n : Int) < 1) = false := by simp; omega
  have j0 : (0 : Int) < (n : Int) := by omega
  have i0' : 0 < n := by omega
  have d1 : decide (24 < (m : Int)) = false := by simp; omega
  have d2 : ((n : Int) == 1 + 7 * (m : Int)) = true := by simp; omega
  have d3 : ((n : Int) != 1 + 7 * (m : Int)) = false := by simp; omega
  clear hn hn0 hcap hx1 hx2 hok hr
  go_enter Try.func13, Try.ntmps13
  go_wp2
  go_loopw [4, 5] (fun t i wr => ∃ (k : Nat) (p' : Option Addr) (c' : Nat), k ≤ m ∧ i = .int .i64 k ∧ t = .slice p' k c' ∧ Own eIn wr w.heap.size 23 p' c' (decL k (b.drop 1)) ∧ Hid ((decL k (b.drop 1)).all mayB = true) ∧ Below w.heap.size w wr) (fun _ i _ => m - (intOf i).toNat)
  case atStart => exact ⟨0, none, 0, Nat.zero_le _, rfl, rfl, own_nil _ _ _, rfl, Below.refl _ _⟩
  case round =>
    obtain ⟨k, p', c', hk, rfl, rfl, hown, HA, hbw⟩ := hrel
    have hsz := hbw.size
    have c1 := (hbw.cell (p := ⟨bb, o, none⟩) hbz).trans c0
    by_cases hlt : k < m
    · have hLl : (b.drop (1 + 7 * k)).length = n - (1 + 7 * k) := by rw [List.length_drop, HL.out]
      have q0 : ¬ c = 1 + 7 * k := by omega
      have HR := rd_far (hr0.below hbw) (1 + 7 * k) (by rw [HL.out]; omega) q0
      have HI := takeInst_any (some ⟨bb, o + (1 + 7 * k), none⟩) (c - (1 + 7 * k)) (b.drop (1 + 7 * k)) wr HR (n - (1 + 7 * k)) hLl (by omega) (fun x hx => hbd x (List.mem_of_mem_drop hx))
      have HB : Hid (mayB (decI (b.drop (1 + 7 * k))) = false → okT b = false) := okT_bad_at HM.out k hlt
      have HAN : Hid (mayB (decI (b.drop (1 + 7 * k))) = true → (decL (k + 1) (b.drop 1)).all mayB = true) := all_next HA.out
      have HN : Hid (decL (k + 1) (b.drop 1) = decL k (b.drop 1) ++ [decI (b.drop (1 + 7 * k))]) := decL_next b k
      have HLn : Hid ((decL k (b.drop 1)).length = k) := decL_len k _
      have HT : Hid (mayB (decI (b.drop (1 + 7 * k))) = true → toldI (decI (b.drop (1 + 7 * k))) = decI (b.drop (1 + 7 * k))) := fun h => if_pos h
      generalize decI (b.drop (1 + 7 * k)) = x at *
      generalize decL k (b.drop 1) = X at *
      clear hLl HR
      by_cases hm : mayB x = true
      · rw [HT.out hm] at HI
        obtain ⟨xo, xa, xb, xn⟩ := x
        simp only at HI
        go_wp2_with (first
          | (go_at_call 24; refine HI.mono ?_; rintro e w3 ⟨rfl, hb3⟩; have hz3 := hb3.size)
          | (at_builtin; refine wpList_app tIn _ rfl _ _ rfl w.heap.size p' c' X k HLn.out rfl (own_below (own_below hown hb3) (by repeat (first | exact Below.refl _ _ | refine Below.alloc ?_ (by first | omega | (simp <;> omega)) _ | refine Below.setCell ?_ (by first | omega | (simp <;> omega)) _))) _ _ [(xo, xa, xb, xn)] 1 rfl rfl (rd_block (heap_at (by simp)) 1 rfl rfl) (by omega) (by simp; omega) (k + 1) rfl ?_; intro p6 c6 w6 ho6 hb6 hst6))
        have hBx : Below w.heap.size w w6 := by
          refine Below.trans ?_ hb6
          repeat (first | exact bel_call hbw (Nat.le_refl _) hb3 | refine Below.alloc ?_ (by first | omega | (simp <;> omega)) _ | refine Below.setCell ?_ (by first | omega | (simp <;> omega)) _)
        go_roundw
        case rel => exact ⟨k + 1, p6, c6, by omega, by go_num, rfl, by rw [HN.out]; exact ho6, HAN.out hm, hBx⟩
        case measure => simp [intOf]; omega
      · have hm' : mayB x = false := by simpa using hm
        rw [hm'] at HI
        generalize toldI x = y at *
        obtain ⟨yo, ya, yb, yn⟩ := y
        simp only at HI
        go_wp2_with (first
          | (go_at_call 24; refine HI.mono ?_; rintro e w3 ⟨rfl, hb3⟩; have hz3 := hb3.size))
        go_ret2
        refine says_no (HB.out hm') ?_
        repeat (first | exact bel_call hbw (Nat.le_refl _) hb3 | refine Below.alloc ?_ (by first | omega | (simp <;> omega)) _ | refine Below.setCell ?_ (by first | omega | (simp <;> omega)) _)
    · obtain rfl : k = m := by omega
      have HAA := HA
      go_wp2
      go_ret2
      exact says_yes HOK.out HAA.out HM.out hown hbw

theorem takeCode_any (p : Option Addr) (c : Nat) (b : List Int) (w : World) (hr : Rd eBy w p c b) (n : Nat) (hn : b.length = n) (hle : n ≤ 1000) (hbd : ∀ x ∈ b, 0 ≤ x ∧ x ≤ 255) :
    Calls Try.prog 13 #[.slice p n c] w fun e w' => TakeSays w b e w' := by
  cases h : lenOk b
  · exact takeCode_short p c b w hr n hn hle hbd h
  · exact takeCode_long p c b w hr n hn hbd h
end Go.Proofs.Ythkkojoanbeegaa
