/-
  The law DeltaAll, walked.
-/
import Derived.Test.YtannkdnjbacbdaaSame
import Derived.Test.YtannkdnjbacbdaaDropMid
namespace Go.Proofs.Ytannkdnjbacbdaa
open Go.ChangeShapes Go.WideShapes Go.ChangeAt Go.RowKit
attribute [local go_sem ↓] Go.wp_at_zero Go.wp_at_succ

/-- A slice of steps, three bytes each, that is read. -/
structure Rd3 (w : World) (p : Option Addr) (L : List (Int × Int × Int)) : Prop where
  at_ : L ≠ [] → ∃ b o, p = some ⟨b, o, none⟩ ∧ ∀ i (h : i < L.length), w.cell? ⟨b, o + i * 3, none⟩ = some (.int .u8 L[i].1) ∧ w.cell? ⟨b, o + i * 3 + 1, none⟩ = some (.int .u8 L[i].2.1) ∧ w.cell? ⟨b, o + i * 3 + 2, none⟩ = some (.int .u8 L[i].2.2)
  bd : ∀ x ∈ L, (0 ≤ x.1 ∧ x.1 ≤ 255) ∧ (0 ≤ x.2.1 ∧ x.2.1 ≤ 255) ∧ (0 ≤ x.2.2 ∧ x.2.2 ≤ 255)
theorem Rd3.below {w w' : World} {p : Option Addr} {L : List (Int × Int × Int)} (h : Rd3 w p L) (hb : Below w.heap.size w w') : Rd3 w' p L := by
  refine ⟨fun hn => ?_, h.bd⟩
  obtain ⟨b, o, e, hc⟩ := h.at_ hn
  refine ⟨b, o, e, fun i hi => ?_⟩
  obtain ⟨h1, h2, h3⟩ := hc i hi
  exact ⟨(hb.cell (p := ⟨b, o + i * 3, none⟩) (lt_of_cell h1)).trans h1, (hb.cell (p := ⟨b, o + i * 3 + 1, none⟩) (lt_of_cell h2)).trans h2, (hb.cell (p := ⟨b, o + i * 3 + 2, none⟩) (lt_of_cell h3)).trans h3⟩

theorem ref_ok (l : List Tm) (n k : Int) : refOk (absT 0 l) n k = okAdd l n k := by
  unfold refOk okAdd
  rw [hasT_iff, absT_keys, absT_length]
theorem ref_add (l : List Tm) (n k : Int) : refAdd (absT 0 l) n k = absT 0 (resAdd l n k) := by
  unfold refAdd resAdd
  rw [ref_ok]
  split
  · rw [abs_add]; simp
  · rfl
theorem addDue_c (p : Option Addr) (c : Nat) (l : List Tm) (w : World) (N : Nat) (l' : List Tm) (N' : Nat) (b : Bool) (n k : Int) (hN : l.length = N) (hl' : resAdd l n k = l') (hN' : l'.length = N') (hb : okAdd l n k = b) (hr : Rd w p c (absT 0 l)) (hl : N ≤ 100) :
    Calls Try.prog 9 #[.slice p N c, .int .i64 n, .int .i64 k] w fun e w' => ∃ p' c', e = .returned (.tuple #[.slice p' N' c', .bool b]) ∧ Rd w' p' c' (absT 0 l') ∧ Below w.heap.size w w' := by
  subst hN hN' hl' hb
  have := addDue_any p c (absT 0 l) w hr (by rw [absT_length]; exact hl) n k
  rw [ref_ok, ref_add, absT_length] at this
  refine this.mono ?_
  rintro e w' ⟨p', c', rfl, h1, h2⟩
  exact ⟨p', c', by rw [absT_length], h1, h2⟩
theorem dropDue_c (p : Option Addr) (c : Nat) (l : List Tm) (w : World) (N : Nat) (l' : List Tm) (N' : Nat) (b : Bool) (k : Int) (hB : Bd l) (hN : l.length = N) (hl' : resDrop l k = l') (hN' : l'.length = N') (hb : hasT l k = b) (hr : Rd w p c (absT 0 l)) (hl : N ≤ 100) :
    Calls Try.prog 11 #[.slice p N c, .int .i64 k] w fun e w' => ∃ p' c', e = .returned (.tuple #[.slice p' N' c', .bool b]) ∧ Rd w' p' c' (absT 0 l') ∧ Below w.heap.size w w' := by
  subst hN hN' hl' hb
  have := dropDue_any p c (absT 0 l) w hr (by rw [absT_length]; exact hl) k
  rw [← abs_resDrop hB, absT_keys, ← hasT_iff, absT_length] at this
  refine this.mono ?_
  rintro e w' ⟨p', c', rfl, h1, h2⟩
  exact ⟨p', c', by rw [absT_length], h1, h2⟩
theorem drop_d (p : Option Addr) (c : Nat) (l : List Tm) (w : World) (N : Nat) (l' : List Tm) (N' : Nat) (b : Bool) (k : Int) (hN : l.length = N) (hl' : resDrop l k = l') (hN' : l'.length = N') (hb : hasT l k = b) (hr : Rd w p c l) (hl : N ≤ 100) (hB : Bd l) :
    Calls Try.prog 10 #[.slice p N c, .int .i64 k] w fun e w' => ∃ p' c', e = .returned (.tuple #[.slice p' N' c', .bool b]) ∧ Rd w' p' c' l' ∧ Below w.heap.size w w' := by
  subst hN hN' hl' hb
  exact delta_drop p c l w hr hl hB k
theorem tickDue_c (p : Option Addr) (c : Nat) (l : List Tm) (w : World) (N : Nat) (l' : List Tm) (N' : Nat) (ks : List Int) (M : Nat) (hB : Bd l) (hN : l.length = N) (hl' : restT l = l') (hN' : l'.length = N') (hks : (l.take (dueT l)).map (·.2) = ks) (hM : ks.length = M) (hr : Rd w p c (absT 0 l)) (hl : N ≤ 100) :
    Calls Try.prog 13 #[.slice p N c] w fun e w' => ∃ p' c' q d, e = .returned (.tuple #[.slice p' N' c', .slice q M d]) ∧ Rd w' p' c' (absT 0 l') ∧ RdI w' q d ks ∧ Below w.heap.size w w' := by
  subst hN hN' hl' hks hM
  have := tickDue_any p c (absT 0 l) w hr (by rw [absT_length]; exact hl) (fun y hy => ⟨by have := absT_ge l 0 hB.low y hy; omega, by have := absT_le l 0 hB.low y hy; have := hB.sum; omega⟩)
  have ht := abs_tick l hB.low
  rw [← ht.1, ← ht.2, absT_length] at this
  refine this.mono ?_
  rintro e w' ⟨p', c', q, d, rfl, h1, h2, h3⟩
  exact ⟨p', c', q, d, by rw [absT_length], h1, h2, h3⟩

/-- keys from 0 to 11 -/
def Low (l : List Tm) : Prop := ∀ x ∈ l.map (·.2), 0 ≤ x ∧ x ≤ 11
theorem low_add {l : List Tm} (h : Low l) (n k : Int) (hk : 0 ≤ k ∧ k ≤ 11) : Low (resAdd l n k) := by
  unfold resAdd
  split
  · intro x hx
    rcases List.mem_cons.1 ((add_keys l n k).mem_iff.1 hx) with rfl | hx
    · exact hk
    · exact h x hx
  · exact h
theorem low_drop {l : List Tm} (h : Low l) (k : Int) : Low (resDrop l k) := by
  unfold resDrop
  split
  · rename_i hh
    obtain ⟨A, hA, _, h2, _⟩ := place_of l k hh
    rw [h2]
    exact fun x hx => h x ((drop_keys l A hA).subset hx)
  · exact h
theorem low_rest {l : List Tm} (h : Low l) : Low (restT l) := fun x hx => h x (by
  have : ((restT l).map (·.2)).Sublist (l.map (·.2)) := by
    rw [← decT_keys l]
    exact (List.drop_sublist _ _).map _
  exact this.subset hx)
theorem low_99 {l : List Tm} (h : Low l) : hasT l 99 = false := by
  rw [hasT_iff]
  simp only [decide_eq_false_iff_not]
  intro hx
  have := h 99 hx
  omega
theorem len_add {l : List Tm} (h : l.length ≤ 64) (n k : Int) : (resAdd l n k).length ≤ 64 := by
  unfold resAdd
  split
  · rename_i hh
    unfold okAdd at hh
    simp at hh
    rw [addT_length]; omega
  · exact h
theorem len_drop {l : List Tm} (h : l.length ≤ 64) (k : Int) : (resDrop l k).length ≤ 64 := by
  unfold resDrop
  split
  · rename_i hh
    obtain ⟨A, hA, _, h2, _⟩ := place_of l k hh
    rw [h2]
    have := (drop_keys l A hA).length_le
    simp at this
    simpa using Nat.le_trans this h
  · exact h
theorem len_rest {l : List Tm} (h : l.length ≤ 64) : (restT l).length ≤ 64 := by unfold restT; rw [List.length_drop, decT_length]; omega
theorem bel_draws {B : Nat} {w w' : World} (h : Below B w w') (n : Nat) : Below B w (w'.drewN n) := ⟨h.os, h.tape, h.output, h.size, h.block⟩

set_option maxRecDepth 100000 in
set_option maxHeartbeats 4000000 in
theorem all_walk (p : Option Addr) (c n : Nat) (L : List (Int × Int × Int)) (t key : Int) (w : World) (hl : Rd3 w p L) (hn : n = L.length) (t0 : -9223372036854775808 ≤ t) (t1 : t ≤ 9223372036854775807) :
    Calls Try.prog 3 #[.slice p n c, .int .i64 t, .int .i64 key] w fun e w' => e = .returned (.bool true) ∧ Below w.heap.size w w' := by
  have HN : Hid (n = L.length) := hn
  clear hn
  by_cases hbig : 80 < n
  · have h1 : decide ((80 : Int) < (n : Int)) = true := by simp; omega
    go_enter Try.func3, Try.ntmps3
    go_wp2_with (go_at_call 7; refine (begun_any _).mono ?_; rintro e w1 ⟨rfl, hb1⟩)
    go_ret
    exact ⟨rfl, hb1⟩
  have h1 : decide ((80 : Int) < (n : Int)) = false := by simp; omega
  go_enter Try.func3, Try.ntmps3
  go_wp2_with (go_at_call 7; refine (begun_any _).mono ?_; rintro e w1 ⟨rfl, hb1⟩)
  go_loopw [7, 8, 9] (fun a b i wr => ∃ (k : Nat) (pa : Option Addr) (ca : Nat) (pb : Option Addr) (cb : Nat) (l : List Tm), k ≤ n ∧ i = .int .i64 k ∧ a = .slice pa l.length ca ∧ b = .slice pb l.length cb ∧ Bd l ∧ l.length ≤ 64 ∧ Low l ∧ Rd wr pa ca l ∧ Rd wr pb cb (absT 0 l) ∧ Below w.heap.size w wr) (fun _ _ i _ => n - (intOf i).toNat)
  case atStart => exact ⟨0, none, 0, none, 0, [], Nat.zero_le _, rfl, rfl, rfl, Bd.nil, by simp, fun x hx => by simp at hx, Rd.nil _, Rd.nil _, hb1⟩
  case round =>
    obtain ⟨k, pa, ca, pb, cb, l, hk, rfl, rfl, rfl, hB, h64, hLow, hra, hrb, hbw⟩ := hrel
    clear hb1
    by_cases hlt : k < n
    · have hkl : k < L.length := by rw [← HN.out]; exact hlt
      obtain ⟨b, o, rfl, hcc⟩ := (hl.below hbw).at_ (by intro e; simp [e] at hkl)
      obtain ⟨c0, c1, c2⟩ := hcc k hkl
      obtain ⟨⟨i0, i1⟩, ⟨i2, i3⟩, ⟨i4, i5⟩⟩ := hl.bd L[k] (List.getElem_mem hkl)
      have hbz := lt_of_cell c0
      clear hcc
      generalize L[k].1 = v0 at *
      generalize L[k].2.1 = v1 at *
      generalize L[k].2.2 = v2 at *
      have hm0 : (v0 % 5 = 0 ∨ v0 % 5 = 1) ∨ v0 % 5 = 2 ∨ (2 < v0 % 5) := by omega
      obtain ⟨κ, hκ⟩ : ∃ κ, v2 % 12 = κ := ⟨_, rfl⟩
      obtain ⟨ν, hν⟩ : ∃ ν, v1 % 9 = ν := ⟨_, rfl⟩
      have hκb : 0 ≤ κ ∧ κ ≤ 11 := by omega
      have hν0 : 0 ≤ ν := by omega
      have hν1 : ν ≤ 8 := by omega
      rcases hm0 with hm | hm | hm
      · have hBd' := bd_resAdd hB ν κ
        have hl' := len_add h64 ν κ
        have hLow' := low_add hLow ν κ hκb
        obtain ⟨l', hl'e⟩ : ∃ l', resAdd l ν κ = l' := ⟨_, rfl⟩
        obtain ⟨ok, hok⟩ : ∃ ok, okAdd l ν κ = ok := ⟨_, rfl⟩
        rw [hl'e] at hBd' hl' hLow'
        have HL' : Hid (resAdd l ν κ = l') := hl'e
        have HO : Hid (okAdd l ν κ = ok) := hok
        clear hl'e hok
        rcases hm with hm | hm <;> cases ok
        all_goals
          go_wp2_with (first
            | (go_at_call 8; refine (add_c _ _ l _ l.length l' l'.length _ ν κ rfl HL'.out rfl HO.out hra (by omega) hB (by omega) (by omega)).mono ?_; rintro e w2 ⟨p2, c2', rfl, h2, b2⟩; have hb2 := bel_call hbw (Nat.le_refl _) b2; have e1 := (b2.cell (p := ⟨b, o + k * 3 + 1, none⟩) hbz).trans c1)
            | (go_at_call 9; refine (addDue_c _ _ l _ l.length l' l'.length _ ν κ rfl HL'.out rfl HO.out (hrb.below b2) (by omega)).mono ?_; rintro e w3 ⟨p3, c3, rfl, h3, b3⟩; have hb3 := bel_call hb2 (Nat.le_refl _) b3; have h2' := h2.below b3)
            | (go_at_call 14; refine (same_any _ _ l' _ _ _ h2' h3 (by omega) hBd').mono ?_; rintro e w4 ⟨rfl, b4⟩))
          go_roundw
          case rel => exact ⟨k + 1, p2, c2', p3, c3, l', by omega, by go_num, rfl, rfl, hBd', hl', hLow', h2'.below b4, h3.below b4, bel_call hb3 (Nat.le_refl _) b4⟩
          case measure => simp [intOf]; omega
      · have hBd' := bd_resDrop hB κ
        have hl' := len_drop h64 κ
        have hLow' := low_drop hLow κ
        obtain ⟨l', hl'e⟩ : ∃ l', resDrop l κ = l' := ⟨_, rfl⟩
        obtain ⟨ok, hok⟩ : ∃ ok, hasT l κ = ok := ⟨_, rfl⟩
        rw [hl'e] at hBd' hl' hLow'
        have HL' : Hid (resDrop l κ = l') := hl'e
        have HO : Hid (hasT l κ = ok) := hok
        clear hl'e hok
        cases ok
        all_goals
          go_wp2_with (first
            | (go_at_call 10; refine (drop_d _ _ l _ l.length l' l'.length _ κ rfl HL'.out rfl HO.out hra (by omega) hB).mono ?_; rintro e w2 ⟨p2, c2', rfl, h2, b2⟩; have hb2 := bel_call hbw (Nat.le_refl _) b2)
            | (go_at_call 11; refine (dropDue_c _ _ l _ l.length l' l'.length _ κ hB rfl HL'.out rfl HO.out (hrb.below b2) (by omega)).mono ?_; rintro e w3 ⟨p3, c3, rfl, h3, b3⟩; have hb3 := bel_call hb2 (Nat.le_refl _) b3; have h2' := h2.below b3)
            | (go_at_call 14; refine (same_any _ _ l' _ _ _ h2' h3 (by omega) hBd').mono ?_; rintro e w4 ⟨rfl, b4⟩))
          go_roundw
          case rel => exact ⟨k + 1, p2, c2', p3, c3, l', by omega, by go_num, rfl, rfl, hBd', hl', hLow', h2'.below b4, h3.below b4, bel_call hb3 (Nat.le_refl _) b4⟩
          case measure => simp [intOf]; omega
      · have hBd' := bd_rest hB
        have hl' := len_rest h64
        have hLow' := low_rest hLow
        have hks := due_len l
        have hdu := dueT_le l
        obtain ⟨l', hl'e⟩ : ∃ l', restT l = l' := ⟨_, rfl⟩
        obtain ⟨ks, hkse⟩ : ∃ ks, (l.take (dueT l)).map (·.2) = ks := ⟨_, rfl⟩
        rw [hl'e] at hBd' hl' hLow'
        rw [hkse] at hks
        have hksl : ks.length ≤ 64 := by omega
        have HL' : Hid (restT l = l') := hl'e
        have HK : Hid ((l.take (dueT l)).map (·.2) = ks) := hkse
        clear hl'e hkse hks hdu
        have z0 : ((v0 % 5) == 0) = false := by simp; omega
        have z1 : ((v0 % 5) == 1) = false := by simp; omega
        have z2 : ((v0 % 5) == 2) = false := by simp; omega
        go_wp2_with (first
          | (go_at_call 12; refine (tick_c _ _ l _ l.length l' l'.length ks ks.length rfl HL'.out rfl HK.out rfl hra (by omega) hB).mono ?_; rintro e w2 ⟨p2, c2', q2, d2, rfl, h2, r2, b2⟩; have hb2 := bel_call hbw (Nat.le_refl _) b2)
          | (go_at_call 13; refine (tickDue_c _ _ l _ l.length l' l'.length ks ks.length hB rfl HL'.out rfl HK.out rfl (hrb.below b2) (by omega)).mono ?_; rintro e w3 ⟨p3, c3, q3, d3, rfl, h3, r3, b3⟩; have hb3 := bel_call hb2 (Nat.le_refl _) b3; have h2' := h2.below b3; have r2' := r2.below b3))
        clear b2 b3 hb2 h2 r2 hbw hra hrb hB HL' HK c0 c1 c2
        go_loopw [23] (fun i wx => ∃ j : Nat, j ≤ ks.length ∧ i = .int .i64 j ∧ Below w3.heap.size w3 wx) (fun i _ => ks.length - (intOf i).toNat)
        case atStart => exact ⟨0, Nat.zero_le _, rfl, Below.refl _ _⟩
        case round =>
          obtain ⟨j, hj, rfl, hbx⟩ := hrel
          by_cases hjl : j < ks.length
          · obtain ⟨xb, xo, rfl, _, xc⟩ := (r2'.below hbx).cell j hjl
            obtain ⟨yb, yo, rfl, _, yc⟩ := (r3.below hbx).cell j hjl
            generalize ks[j] = z at *
            go_wp2
            go_quiet (fail)
            go_wp2
            go_roundw
            case rel => exact ⟨j + 1, by omega, by go_num, bel_draws hbx _⟩
            case measure => simp [intOf]; omega
          · obtain rfl : j = ks.length := by omega
            have h2x := h2'.below hbx
            have h3x := h3.below hbx
            have hb3x := bel_call hb3 (Nat.le_refl _) hbx
            clear r2' r3 h2' h3
            go_wp2_with (go_at_call 14; refine (same_any _ _ l' _ _ _ h2x h3x (by omega) hBd').mono ?_; rintro e w4 ⟨rfl, b4⟩)
            go_roundw
            case rel => exact ⟨k + 1, p2, c2', p3, c3, l', by omega, by go_num, rfl, rfl, hBd', hl', hLow', h2x.below b4, h3x.below b4, bel_call hb3x (Nat.le_refl _) b4⟩
            case measure => simp [intOf]; omega
    · obtain rfl : k = n := by omega
      have hBd' := bd_resAdd hB t key
      have hl' := len_add h64 t key
      have H99 : Hid (hasT l 99 = false) := low_99 hLow
      obtain ⟨l', hl'e⟩ : ∃ l', resAdd l t key = l' := ⟨_, rfl⟩
      obtain ⟨ok, hok⟩ : ∃ ok, okAdd l t key = ok := ⟨_, rfl⟩
      obtain ⟨lf, hlf⟩ : ∃ lf, leftT l 99 = lf := ⟨_, rfl⟩
      rw [hl'e] at hBd' hl'
      have HL' : Hid (resAdd l t key = l') := hl'e
      have HO : Hid (okAdd l t key = ok) := hok
      have HF : Hid (leftT l 99 = lf) := hlf
      clear hl'e hok hlf
      cases ok
      all_goals
        go_wp2_with (first
          | (go_at_call 8; refine (add_c _ _ l _ l.length l' l'.length _ t key rfl HL'.out rfl HO.out hra (by omega) hB t0 t1).mono ?_; rintro e w2 ⟨p2, c2', rfl, h2, b2⟩; have hb2 := bel_call hbw (Nat.le_refl _) b2)
          | (go_at_call 9; refine (addDue_c _ _ l _ l.length l' l'.length _ t key rfl HL'.out rfl HO.out (hrb.below b2) (by omega)).mono ?_; rintro e w3 ⟨p3, c3, rfl, h3, b3⟩; have hb3 := bel_call hb2 (Nat.le_refl _) b3; have h2' := h2.below b3)
          | (go_at_call 15; refine (left_c _ _ l _ l.length 99 lf false rfl HF.out H99.out ((hra.below b2).below b3) (by omega) hB).mono ?_; rintro e w4 ⟨rfl, b4⟩; have hb4 := bel_call hb3 (Nat.le_refl _) b4)
          | (go_at_call 14; refine (same_any _ _ l' _ _ _ (h2'.below b4) (h3.below b4) (by omega) hBd').mono ?_; rintro e w5 ⟨rfl, b5⟩))
        go_ret
        exact ⟨rfl, bel_call hb4 (Nat.le_refl _) b5⟩
end Go.Proofs.Ytannkdnjbacbdaa
