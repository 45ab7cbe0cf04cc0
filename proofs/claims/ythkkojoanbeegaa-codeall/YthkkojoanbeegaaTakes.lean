/-
  What Take tells, by package code.
-/
import Derived.Test.YthkkojoanbeegaaTakeIn
namespace Go.Proofs.Ythkkojoanbeegaa
open Go.ChangeShapes Go.WideShapes Go.ChangeAt Go.RowKit
attribute [local go_sem ↓] Go.wp_at_zero Go.wp_at_succ

theorem lenOk_iff {b : List Int} (h : 0 < b.length) : lenOk b = true ↔ b.getD 0 0 ≤ 24 ∧ (b.length : Int) = 1 + 7 * b.getD 0 0 := by
  have : b ≠ [] := List.length_pos_iff.1 h
  simp [lenOk, this]
theorem takeL_len {b : List Int} (h : lenOk b = false) : takeL b = [] ∧ okT b = false := ⟨takeL_no (okT_len h), okT_len h⟩

def TakeSays (w : World) (b : List Int) (e : Ending) (w' : World) : Prop :=
  ∃ p' c', e = .returned (.tuple #[.slice p' (takeL b).length c', .bool (okT b)]) ∧ Own eIn w' w.heap.size 23 p' c' (takeL b) ∧ Below w.heap.size w w'
theorem says_no {w w' : World} {b : List Int} (h : okT b = false) (hb : Below w.heap.size w w') : TakeSays w b (.returned (.tuple #[.slice none 0 0, .bool false])) w' := by
  refine ⟨none, 0, ?_, ?_, hb⟩
  · rw [takeL_no h, h]; rfl
  · rw [takeL_no h]; exact own_nil _ _ _
theorem says_yes {w w' : World} {b : List Int} {p : Option Addr} {c n : Nat} (h : lenOk b = true) (ha : (decL n (b.drop 1)).all mayB = true) (hn : (b.getD 0 0).toNat = n) (hown : Own eIn w' w.heap.size 23 p c (decL n (b.drop 1))) (hb : Below w.heap.size w w') : TakeSays w b (.returned (.tuple #[.slice p n c, .bool true])) w' := by
  have hi : allI b = decL n (b.drop 1) := by unfold allI; rw [hn]
  have ho : okT b = true := okT_yes h (by rw [hi]; exact ha)
  refine ⟨p, c, ?_, ?_, hb⟩
  · rw [takeL_yes ho, hi, ho, decL_len]
  · rw [takeL_yes ho, hi]; exact hown
theorem okT_bad_at {b : List Int} {n : Nat} (hn : (b.getD 0 0).toNat = n) (k : Nat) (hk : k < n) (h : mayB (decI (b.drop (1 + 7 * k))) = false) : okT b = false := by
  have hi : allI b = decL n (b.drop 1) := by unfold allI; rw [hn]
  refine okT_bad k (by rw [hi, decL_len]; exact hk) ?_
  have := decL_get n (b.drop 1) k hk
  rw [List.drop_drop] at this
  simp only [hi, this, h]
theorem decL_next (b : List Int) (k : Nat) : decL (k + 1) (b.drop 1) = decL k (b.drop 1) ++ [decI (b.drop (1 + 7 * k))] := by
  rw [decL_succ, List.drop_drop]
theorem all_next {b : List Int} {k : Nat} (h : (decL k (b.drop 1)).all mayB = true) (hm : mayB (decI (b.drop (1 + 7 * k))) = true) : (decL (k + 1) (b.drop 1)).all mayB = true := by
  rw [decL_next, List.all_append, h]; simp [hm]

set_option maxHeartbeats 2000000 in
theorem take_short (p : Option Addr) (c : Nat) (b : List Int) (w : World) (hr : Rd eBy w p c b) (n : Nat) (hn : b.length = n) (hle : n ≤ 1000) (hbd : ∀ x ∈ b, 0 ≤ x ∧ x ≤ 255) (hno : lenOk b = false) :
    Calls Try.prog 12 #[.slice p n c] w fun e w' => TakeSays w b e w' := by
  by_cases h0 : n = 0
  · subst h0
    go_enter Try.func12, Try.ntmps12
    go_wp2
    go_ret2
    exact says_no (okT_len hno) (Below.refl _ _)
  · obtain ⟨bb, o, rfl, hbz, hc⟩ := hr.bytes (by omega)
    have c0 := hc 0 (by omega)
    rw [Nat.add_zero] at c0
    have HO : Hid (okT b = false) := okT_len hno
    have hx : ¬ (b.getD 0 0 ≤ 24 ∧ (b.length : Int) = 1 + 7 * b.getD 0 0) := fun h => by
      rw [(lenOk_iff (by omega)).2 h] at hno
      cases hno
    have g : 0 ≤ b.getD 0 0 ∧ b.getD 0 0 ≤ 255 := by
      rw [List.getD_eq_getElem?_getD, List.getElem?_eq_getElem (show 0 < b.length by omega)]
      exact hbd _ (List.getElem_mem _)
    obtain ⟨g0, g1⟩ := g
    rw [hn] at hx
    clear hno hc hr hbd hn
    generalize b.getD 0 0 = x at *
    have z : ((n : Int) == 0) = false := by simp; omega
    have i0 : 0 < n := by omega
    have j0 : (0 : Int) < n := by omega
    by_cases h24 : x ≤ 24
    · have d1 : decide (24 < x) = false := by simp; omega
      have d2 : ((n : Int) == 1 + x * 7) = false := by simp; omega
      clear hx
      go_enter Try.func12, Try.ntmps12
      go_wp2_with (go_at_call 22; refine (size_any _ _ (by omega) (by omega)).mono ?_; rintro e w9 ⟨rfl, hw9⟩; subst w9)
      go_ret2
      exact says_no HO.out (Below.refl _ _)
    · have d1 : decide (24 < x) = true := by simp; omega
      clear hx
      go_enter Try.func12, Try.ntmps12
      go_wp2
      go_ret2
      exact says_no HO.out (Below.refl _ _)

def lenV : Value → Nat | .slice _ n _ => n | _ => 0
set_option maxHeartbeats 4000000 in
theorem take_long (p : Option Addr) (c : Nat) (b : List Int) (w : World) (hr : Rd eBy w p c b) (n : Nat) (hn : b.length = n) (hbd : ∀ x ∈ b, 0 ≤ x ∧ x ≤ 255) (hok : lenOk b = true) :
    Calls Try.prog 12 #[.slice p n c] w fun e w' => TakeSays w b e w' := by
  obtain ⟨i0, hi0, hz0, hz1, hz2⟩ := info_parts Try.info23
  have hn0 : 0 < b.length := by
    rcases Nat.eq_zero_or_pos b.length with h | h
    · rw [List.length_eq_zero_iff.1 h] at hok; cases hok
    · exact h
  have hcap := hr.cap
  have hr0 := hr
  obtain ⟨bb, o, rfl, hbz, hc⟩ := hr.bytes hn0
  have c0 := hc 0 hn0
  rw [Nat.add_zero] at c0
  have hx := (lenOk_iff hn0).1 hok
  have g : 0 ≤ b.getD 0 0 ∧ b.getD 0 0 ≤ 255 := by
    rw [List.getD_eq_getElem?_getD, List.getElem?_eq_getElem hn0]
    exact hbd _ (List.getElem_mem _)
  obtain ⟨g0, g1⟩ := g
  obtain ⟨m, hm⟩ := Int.eq_ofNat_of_zero_le g0
  have HM : Hid ((b.getD 0 0).toNat = m) := by show _ = _; rw [hm]; rfl
  rw [hm] at hx c0
  clear g0 g1 hm hc
  obtain ⟨hx1, hx2⟩ := hx
  have hlen : b.length = 1 + 7 * m := by omega
  have hm24 : m ≤ 24 := by omega
  have hcc : n ≤ c := by omega
  have hnm : n = 1 + 7 * m := by omega
  have n1 : 1 + 7 * m ≤ n := by omega
  have n2 : n ≤ 1 + 7 * m := by omega
  have HL : Hid (b.length = n) := hn
  have HOK : Hid (lenOk b = true) := hok
  have z : ((n : Int) == 0) = false := by simp; omega
  have j0 : (0 : Int) < (n : Int) := by omega
  have i0' : 0 < n := by omega
  have j1 : (1 : Int) ≤ (n : Int) := by omega
  have i1' : 1 ≤ n := by omega
  have d1 : decide (24 < (m : Int)) = false := by simp; omega
  have d2 : ((n : Int) == 1 + (m : Int) * 7) = true := by simp; omega
  have hstart : ∃ pr, Rd eBy w (some pr) (c - 1) (b.drop 1) ∧ Hid (pr = if c = 1 then ⟨bb, o, none⟩ else ⟨bb, o + 1, none⟩) := by
    by_cases hc1 : c = 1
    · have := rd_end hr0 1 (by omega) hc1
      exact ⟨⟨bb, o, none⟩, by rw [hc1]; exact this, by show _ = _; rw [if_pos hc1]⟩
    · exact ⟨⟨bb, o + 1, none⟩, rd_far hr0 1 (by omega) hc1, by show _ = _; rw [if_neg hc1]⟩
  obtain ⟨pr, hpr, HPR⟩ := hstart
  clear hn hlen hn0 hcap hx1 hx2 hok hnm hr hr0
  by_cases hc1 : c = 1
  · have hp := HPR.out
    rw [if_pos hc1] at hp
    subst hp
    subst hc1
    go_enter Try.func12, Try.ntmps12
    go_wp2_with (first
      | (go_at_call 22; refine (size_any _ _ (by omega) (by omega)).mono ?_; rintro e w9 ⟨rfl, hw9⟩; subst w9)
      | (at_make; refine wpList_make_own _ rfl _ _ 24 rfl w.heap.size 23 i0 _ 4 Try.underlying24 hi0 hz0 hz1 .i64 .i64 _ m rfl rfl (by omega) (by rw [hz2]; omega) (by unfold maxLen; omega) (Nat.le_refl _) ?_; intro w0 hown0 hgrow0))
    have hB0 : Below w.heap.size w w0 := (Below.refl _ _).grown hgrow0 (Nat.le_refl _) (fun k hk => by cases hk)
    have ho0 : Own eIn w0 w.heap.size 23 (some ⟨w.heap.size, 0, none⟩) m [] := hown0
    clear hown0 hgrow0 hi0 hz0 hz1 hz2
    go_loopw [4, 5] (fun t r wr => ∃ (k : Nat) (p' : Option Addr) (c' : Nat) (q : Option Addr) (R cr : Nat), k ≤ m ∧ t = .slice p' k c' ∧ r = .slice q R cr ∧ R ≤ 7 * (m - k) ∧ 7 * (m - k) ≤ R ∧ Rd eBy w q cr (b.drop (1 + 7 * k)) ∧ Own eIn wr w.heap.size 23 p' c' (decL k (b.drop 1)) ∧ Hid ((decL k (b.drop 1)).all mayB = true) ∧ Below w.heap.size w wr) (fun _ r _ => lenV r)
    case atStart => exact ⟨0, _, _, _, _, _, Nat.zero_le _, rfl, rfl, by omega, by omega, hpr, ho0, rfl, hB0⟩
    case round =>
      obtain ⟨k, p', c', q, R, cr, hk, rfl, rfl, r1, r2, hrd, hown, HA, hbw⟩ := hrel
      clear hB0 ho0
      have hsz := hbw.size
      by_cases hlt : k < m
      · exfalso; omega
      · obtain rfl : k = m := by omega
        have hR0 : R = 0 := by omega
        subst hR0
        have HAA := HA
        go_wp2
        go_ret2
        exact says_yes HOK.out HAA.out HM.out hown hbw
  · have hp := HPR.out
    rw [if_neg hc1] at hp
    subst hp
    go_enter Try.func12, Try.ntmps12
    go_wp2_with (first
      | (go_at_call 22; refine (size_any _ _ (by omega) (by omega)).mono ?_; rintro e w9 ⟨rfl, hw9⟩; subst w9)
      | (at_make; refine wpList_make_own _ rfl _ _ 24 rfl w.heap.size 23 i0 _ 4 Try.underlying24 hi0 hz0 hz1 .i64 .i64 _ m rfl rfl (by omega) (by rw [hz2]; omega) (by unfold maxLen; omega) (Nat.le_refl _) ?_; intro w0 hown0 hgrow0))
    have hB0 : Below w.heap.size w w0 := (Below.refl _ _).grown hgrow0 (Nat.le_refl _) (fun k hk => by cases hk)
    have ho0 : Own eIn w0 w.heap.size 23 (some ⟨w.heap.size, 0, none⟩) m [] := hown0
    clear hown0 hgrow0 hi0 hz0 hz1 hz2
    go_loopw [4, 5] (fun t r wr => ∃ (k : Nat) (p' : Option Addr) (c' : Nat) (q : Option Addr) (R cr : Nat), k ≤ m ∧ t = .slice p' k c' ∧ r = .slice q R cr ∧ R ≤ 7 * (m - k) ∧ 7 * (m - k) ≤ R ∧ Rd eBy w q cr (b.drop (1 + 7 * k)) ∧ Own eIn wr w.heap.size 23 p' c' (decL k (b.drop 1)) ∧ Hid ((decL k (b.drop 1)).all mayB = true) ∧ Below w.heap.size w wr) (fun _ r _ => lenV r)
    case atStart => exact ⟨0, _, _, _, _, _, Nat.zero_le _, rfl, rfl, by omega, by omega, hpr, ho0, rfl, hB0⟩
    case round =>
      obtain ⟨k, p', c', q, R, cr, hk, rfl, rfl, r1, r2, hrd, hown, HA, hbw⟩ := hrel
      clear hB0 ho0
      have hsz := hbw.size
      by_cases hlt : k < m
      · have hRl : 7 ≤ R := by omega
        have hcapr := hrd.cap
        have hLl : (b.drop (1 + 7 * k)).length = n - (1 + 7 * k) := by rw [List.length_drop, HL.out]
        have hcr : R ≤ cr := by omega
        obtain ⟨rb, ro, rfl, hrb, _⟩ := hrd.pos (by omega)
        have HI := inst_any (some ⟨rb, ro, none⟩) cr ((b.drop (1 + 7 * k)).take 7) wr ((hrd.below hbw).take 7) 7 (by rw [List.length_take]; omega) rfl (fun x hx => hbd x (List.mem_of_mem_drop (List.mem_of_mem_take hx)))
        rw [decI_take] at HI
        have HB : Hid (mayB (decI (b.drop (1 + 7 * k))) = false → okT b = false) := okT_bad_at HM.out k hlt
        have HAN : Hid (mayB (decI (b.drop (1 + 7 * k))) = true → (decL (k + 1) (b.drop 1)).all mayB = true) := all_next HA.out
        have HN : Hid (decL (k + 1) (b.drop 1) = decL k (b.drop 1) ++ [decI (b.drop (1 + 7 * k))]) := decL_next b k
        have HLn : Hid ((decL k (b.drop 1)).length = k) := decL_len k _
        have HDR : Hid ((b.drop (1 + 7 * k)).drop 7 = b.drop (1 + 7 * (k + 1))) := by
          show _ = _
          rw [List.drop_drop]
          congr 1
        generalize decI (b.drop (1 + 7 * k)) = x at *
        generalize decL k (b.drop 1) = X at *
        have hnext : ∃ pn, Rd eBy w (some pn) (cr - 7) (b.drop (1 + 7 * (k + 1))) ∧ Hid (pn = if cr = 7 then ⟨rb, ro, none⟩ else ⟨rb, ro + 7, none⟩) := by
          rw [← HDR.out]
          by_cases hc7 : cr = 7
          · have := rd_end hrd 7 (by omega) hc7
            exact ⟨⟨rb, ro, none⟩, by rw [hc7]; exact this, by show _ = _; rw [if_pos hc7]⟩
          · exact ⟨⟨rb, ro + 7, none⟩, rd_far hrd 7 (by omega) hc7, by show _ = _; rw [if_neg hc7]⟩
        obtain ⟨pn, hpn, HPN⟩ := hnext
        obtain ⟨xo, xa, xb, xn⟩ := x
        simp only at HI
        have q0 : ¬ cr = 0 := by omega
        have q1 : (7 : Int) ≤ cr := by omega
        have q2 : (7 : Int) ≤ R := by omega
        have q3 : 7 ≤ cr := by omega
        have q4 : decide ((0 : Int) < (R : Int)) = true := by simp; omega
        have q5 : decide (0 < R) = true := by simp; omega
        clear hLl hcapr HDR hrd
        by_cases hm : mayB (xo, xa, xb, xn) = true
        · by_cases hc7 : cr = 7
          all_goals
            have hp := HPN.out
            first | (rw [if_pos hc7] at hp; subst hp; subst hc7) | (rw [if_neg hc7] at hp; subst hp)
            go_wp2_with (first
              | (go_at_call 23; refine HI.mono ?_; rintro e w3 ⟨rfl, hb3⟩; have hz3 := hb3.size)
              | (go_at_call 14; refine (may_any (xo, xa, xb, xn) _).mono ?_; rintro e w4 ⟨rfl, hb4⟩; obtain ⟨hc4, hf4⟩ := bcell hb4; have hz4 := hb4.size; simp at hz4
                 have hB4 : Below w3.heap.size w3 w4 := bel_call (by repeat (first | exact Below.refl _ _ | refine Below.alloc ?_ (by simp <;> omega) _ | refine Below.setCell ?_ (by simp <;> omega) _)) (Nat.le_refl _) hb4)
              | (at_builtin; refine wpList_app tIn _ rfl _ _ rfl w.heap.size p' c' X k HLn.out rfl (own_below (own_below (own_below hown hb3) hB4) ((Below.refl _ _).alloc (Nat.le_refl _) _)) _ _ [(xo, xa, xb, xn)] 1 rfl rfl (rd_block (heap_alloc_new _ _) 1 rfl rfl) (by omega) (by simp; omega) (k + 1) rfl ?_; intro p6 c6 w6 ho6 hb6 hst6))
            have hBx : Below w.heap.size w w6 := ((bel_call (bel_call hbw (Nat.le_refl _) hb3) (Nat.le_refl _) hB4).alloc (by omega) _).trans hb6
            go_roundw
            case rel => exact ⟨k + 1, p6, c6, _, _, _, by omega, rfl, rfl, by omega, by omega, hpn, by rw [HN.out]; exact ho6, HAN.out hm, hBx⟩
            case measure => simp [lenV]; omega
        · have hm' : mayB (xo, xa, xb, xn) = false := by simpa using hm
          go_wp2_with (first
            | (go_at_call 23; refine HI.mono ?_; rintro e w3 ⟨rfl, hb3⟩; have hz3 := hb3.size)
            | (go_at_call 14; refine (may_any (xo, xa, xb, xn) _).mono ?_; rintro e w4 ⟨rfl, hb4⟩
               have hB4 : Below w3.heap.size w3 w4 := bel_call (by repeat (first | exact Below.refl _ _ | refine Below.alloc ?_ (by simp <;> omega) _ | refine Below.setCell ?_ (by simp <;> omega) _)) (Nat.le_refl _) hb4))
          go_ret2
          exact says_no (HB.out hm') (bel_call (bel_call hbw (Nat.le_refl _) hb3) (Nat.le_refl _) hB4)
      · obtain rfl : k = m := by omega
        have hR0 : R = 0 := by omega
        subst hR0
        have HAA := HA
        go_wp2
        go_ret2
        exact says_yes HOK.out HAA.out HM.out hown hbw

theorem take_any (p : Option Addr) (c : Nat) (b : List Int) (w : World) (hr : Rd eBy w p c b) (n : Nat) (hn : b.length = n) (hle : n ≤ 1000) (hbd : ∀ x ∈ b, 0 ≤ x ∧ x ≤ 255) :
    Calls Try.prog 12 #[.slice p n c] w fun e w' => TakeSays w b e w' := by
  cases h : lenOk b
  · exact take_short p c b w hr n hn hle hbd h
  · exact take_long p c b w hr n hn hbd h
end Go.Proofs.Ythkkojoanbeegaa
