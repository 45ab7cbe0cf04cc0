/-
  Which programs may be, by package shape; the contracts at letters.
-/
import Derived.Test.YteikdocpncdheaaPairs
namespace Go.Proofs.Yteikdocpncdheaa
open Go.ChangeShapes Go.WideShapes Go.ChangeAt Go.RowKit
attribute [local go_sem ↓] Go.wp_at_zero Go.wp_at_succ

set_option maxHeartbeats 2000000 in
set_option maxRecDepth 20000 in
theorem shape_any (p : Option Addr) (c : Nat) (l : List In) (w : World) (hr : Rd eIn w p c l) (n : Nat) (hN : l.length = n) (hl : n ≤ 1000) :
    Calls Try.prog 21 #[.slice p n c] w fun e w' => e = .returned (.bool (okB l)) ∧ Below w.heap.size w w' := by
  have h1 := isRow_any p c l w hr n hN hl
  by_cases r1 : rowB l = true
  · rw [r1] at h1
    obtain ⟨k1, k2, _⟩ := row_iff.1 r1
    rw [hN] at k1 k2
    have hal := row_all r1
    obtain ⟨m, hm⟩ : ∃ m, n = m + 1 := ⟨n - 1, by omega⟩
    have h2 := fun w' hb => isNested_any p c l w' (hr.below hb) n m hN hm hl hal
    by_cases r2 : nestB l = true
    · rw [r2] at h2
      have h3 := fun w' hb => isShallow_any p c l w' (hr.below hb) n hN k2 hal
      by_cases r3 : shalB l = true
      · rw [r3] at h3
        have h4 := fun w' hb => pairs_any p c l w' (hr.below hb) n hN k2 hal k1
        by_cases r4 : okP l = true
        · have h5 := fun (w' : World) (hb : Below w.heap.size w w') (q : Option Addr) (d : Nat) hq => marks_any p c l w' (hr.below hb) n hN k2 hal q d hq
          have HF : Hid (okB l = markB l) := by show _ = _; unfold okB; rw [r1, r2, r3, r4]; rfl
          rw [HF.out]
          generalize markB l = M at *
          have R4 : Hid (okP l = true) := r4
          clear hm hN r4
          go_enter Try.func21, Try.ntmps21
          go_wp2_with (first
            | (go_at_call 35; refine h1.mono ?_; rintro e w1 ⟨rfl, b1⟩)
            | (go_at_call 36; refine (h2 _ b1).mono ?_; rintro e w2 ⟨rfl, b2⟩; have B2 := bel_call b1 (Nat.le_refl _) b2)
            | (go_at_call 37; refine (h3 _ B2).mono ?_; rintro e w3 ⟨rfl, b3⟩; have B3 := bel_call B2 (Nat.le_refl _) b3)
            | (go_at_call 25; refine (h4 _ B3).mono ?_; rintro e w4 ⟨⟨q, d, m4, k4, rfl, e4, f4⟩, b4⟩; rw [R4.out] at e4; subst e4; obtain ⟨rfl, o4⟩ := f4 rfl; have B4 := bel_call B3 (Nat.le_refl _) b4)
            | (go_at_call 38; refine (h5 _ B4 q d (own_rd o4)).mono ?_; rintro e w5 ⟨rfl, b5⟩; have B5 := bel_call B4 (Nat.le_refl _) b5))
          go_ret
          exact ⟨rfl, B5⟩
        · have r4' : okP l = false := by simpa using r4
          have HF : Hid (okB l = false) := by show _ = _; unfold okB; rw [r1, r2, r3, r4']; rfl
          rw [HF.out]
          have R4 : Hid (okP l = false) := r4'
          clear hm hN r4 r4'
          go_enter Try.func21, Try.ntmps21
          go_wp2_with (first
            | (go_at_call 35; refine h1.mono ?_; rintro e w1 ⟨rfl, b1⟩)
            | (go_at_call 36; refine (h2 _ b1).mono ?_; rintro e w2 ⟨rfl, b2⟩; have B2 := bel_call b1 (Nat.le_refl _) b2)
            | (go_at_call 37; refine (h3 _ B2).mono ?_; rintro e w3 ⟨rfl, b3⟩; have B3 := bel_call B2 (Nat.le_refl _) b3)
            | (go_at_call 25; refine (h4 _ B3).mono ?_; rintro e w4 ⟨⟨q, d, m4, k4, rfl, e4, f4⟩, b4⟩; rw [R4.out] at e4; subst e4; have B4 := bel_call B3 (Nat.le_refl _) b4; clear f4))
          go_ret
          exact ⟨rfl, B4⟩
      · have r3' : shalB l = false := by simpa using r3
        have HF : Hid (okB l = false) := by show _ = _; unfold okB; rw [r1, r2, r3']; rfl
        rw [HF.out]
        rw [r3'] at h3
        clear hm hN
        go_enter Try.func21, Try.ntmps21
        go_wp2_with (first
          | (go_at_call 35; refine h1.mono ?_; rintro e w1 ⟨rfl, b1⟩)
          | (go_at_call 36; refine (h2 _ b1).mono ?_; rintro e w2 ⟨rfl, b2⟩; have B2 := bel_call b1 (Nat.le_refl _) b2)
          | (go_at_call 37; refine (h3 _ B2).mono ?_; rintro e w3 ⟨rfl, b3⟩; have B3 := bel_call B2 (Nat.le_refl _) b3))
        go_ret
        exact ⟨rfl, B3⟩
    · have r2' : nestB l = false := by simpa using r2
      have HF : Hid (okB l = false) := by show _ = _; unfold okB; rw [r1, r2']; rfl
      rw [HF.out]
      rw [r2'] at h2
      clear hm hN
      go_enter Try.func21, Try.ntmps21
      go_wp2_with (first
        | (go_at_call 35; refine h1.mono ?_; rintro e w1 ⟨rfl, b1⟩)
        | (go_at_call 36; refine (h2 _ b1).mono ?_; rintro e w2 ⟨rfl, b2⟩; have B2 := bel_call b1 (Nat.le_refl _) b2))
      go_ret
      exact ⟨rfl, B2⟩
  · have r1' : rowB l = false := by simpa using r1
    have HF : Hid (okB l = false) := by show _ = _; unfold okB; rw [r1']; rfl
    rw [HF.out]
    rw [r1'] at h1
    clear hN
    go_enter Try.func21, Try.ntmps21
    go_wp2_with (go_at_call 35; refine h1.mono ?_; rintro e w1 ⟨rfl, b1⟩)
    go_ret
    exact ⟨rfl, b1⟩

theorem shape_c (p : Option Addr) (c : Nat) (l : List In) (w : World) (n : Nat) (k : Bool) (hN : l.length = n) (hk : okB l = k) (hr : Rd eIn w p c l) (hl : n ≤ 1000) :
    Calls Try.prog 21 #[.slice p n c] w fun e w' => e = .returned (.bool k) ∧ Below w.heap.size w w' := by
  subst hk
  exact shape_any p c l w hr n hN hl
theorem pairs_yes (p : Option Addr) (c : Nat) (l : List In) (w : World) (n : Nat) (u : List Int) (hN : l.length = n) (hk : okP l = true) (hu : pairL l = u) (hr : Rd eIn w p c l) (hn : n ≤ 24) (hal : l.all mayB = true) (h1 : 1 ≤ n) :
    Calls Try.prog 25 #[.slice p n c] w fun e w' => ∃ q d, e = .returned (.tuple #[.slice q n d, .bool true]) ∧ Own eI w' w.heap.size 3 q d u ∧ Below w.heap.size w w' := by
  subst hu
  refine (pairs_any p c l w hr n hN hn hal h1).mono ?_
  rintro e w' ⟨⟨q, d, m, k, rfl, e4, f4⟩, hb⟩
  rw [hk] at e4
  subst e4
  obtain ⟨rfl, ho⟩ := f4 rfl
  exact ⟨q, d, rfl, ho, hb⟩
theorem pairs_no (p : Option Addr) (c : Nat) (l : List In) (w : World) (n : Nat) (hN : l.length = n) (hk : okP l = false) (hr : Rd eIn w p c l) (hn : n ≤ 24) (hal : l.all mayB = true) (h1 : 1 ≤ n) :
    Calls Try.prog 25 #[.slice p n c] w fun e w' => ∃ q m d, e = .returned (.tuple #[.slice q m d, .bool false]) ∧ Below w.heap.size w w' := by
  refine (pairs_any p c l w hr n hN hn hal h1).mono ?_
  rintro e w' ⟨⟨q, d, m, k, rfl, e4, f4⟩, hb⟩
  rw [hk] at e4
  subst e4
  exact ⟨q, m, d, rfl, hb⟩

def bg3 : List In := [(9, 1, 0, 0), (10, 1, 0, 0), (0, 0, 0, 0)]
theorem bg3_rd {w : World} {vb : Nat} {t : TypeId} {fr : Nat × Nat} (h : w.heap[vb]? = some (.cells #[.int .i64 9, .int .i64 1, .int .i64 0, .int .i64 0, .int .i64 10, .int .i64 1, .int .i64 0, .int .i64 0, .int .i64 0, .int .i64 0, .int .i64 0, .int .i64 0] t fr)) : Rd eIn w (some ⟨vb, 0, none⟩) 3 bg3 := rd_block h 3 rfl rfl
set_option maxHeartbeats 1000000 in
set_option maxRecDepth 20000 in
theorem begun_any (w : World) : Calls Try.prog 18 #[] w fun e w' => e = .returned (.bool true) ∧ Below w.heap.size w w' := by
  have a1 := fun (p : Option Addr) (c : Nat) (w : World) (hr : Rd eIn w p c bg3) => pairs_yes p c bg3 w 3 [1, 0, 0] rfl (by decide) (by decide) hr (by omega) (by decide) (by omega)
  have a2 := fun (p : Option Addr) (c : Nat) (w : World) (hr : Rd eIn w p c bg3) => pairs_no p c (bg3.take 1) w 1 rfl (by decide) (hr.take 1) (by omega) (by decide) (by omega)
  have m1 := fun (p : Option Addr) (c : Nat) (w : World) (hr : Rd eIn w p c bg3) => shape_c p c bg3 w 3 true rfl (by decide) hr (by omega)
  have m2 := fun (p : Option Addr) (c : Nat) (w : World) (hr : Rd eIn w p c bg3) => shape_c p c (bg3.take 2) w 2 false rfl (by decide) (hr.take 2) (by omega)
  go_enter Try.func18, Try.ntmps18
  go_wp2_with (first
    | (go_at_call 25; with_reducible (refine (a1 _ _ _ ?hr).mono ?_); (case hr => exact bg3_rd (heap_at (by first | rfl | simp))); rintro e w1 ⟨q1, d1, rfl, h1, b1⟩; have B1 := ((Below.refl _ _).alloc (Nat.le_refl _) _).trans (b1.mono (by simp)); have r1 := (bg3_rd (heap_alloc_new w _)).below b1)
    | (go_at_call 25; with_reducible (refine (a2 _ _ _ r1).mono ?_); rintro e w2 ⟨q2, m2', d2, rfl, b2⟩; have B2 := bel_call B1 (Nat.le_refl _) b2; have k2 := own_below h1 b2; have r2 := r1.below b2)
    | (go_at_call 21; with_reducible (refine (m1 _ _ _ r2).mono ?_); rintro e w3 ⟨rfl, b3⟩; have B3 := bel_call B2 (Nat.le_refl _) b3; have r3 := r2.below b3; have k3 := own_below k2 b3)
    | (go_at_call 21; with_reducible (refine (m2 _ _ _ r3).mono ?_); rintro e w4 ⟨rfl, b4⟩; have B4 := bel_call B3 (Nat.le_refl _) b4; have k4 := own_below k3 b4; obtain ⟨ib, io, rfl, iz, i0⟩ := (own_rd k4).num 0 (by decide); simp at i0))
  go_ret
  exact ⟨rfl, B4⟩
end Go.Proofs.Yteikdocpncdheaa
