/-
  The law SemaOne, walked.
-/
import Derived.Test.YtfankdhkcjknaaaBegun
import Derived.Test.YtfankdhkcjknaaaOneMath
import Derived.Test.YtfankdhkcjknaaaArgs
namespace Go.Proofs.Ytfankdhkcjknaaa
open Go.ChangeShapes Go.WideShapes Go.ChangeAt Go.RowKit
attribute [local go_sem ↓] Go.wp_at_zero Go.wp_at_succ

theorem cI_set (l : List Int) (k : Nat) (v : Int) : (cI l).setIfInBounds k (.int .i64 v) = cI (l.set k v) := by simp [cI, List.map_set]
/-- An array of four integers in a block of its own. -/
structure Wo (w : World) (g : Nat) (l : List Int) : Prop where
  at_ : w.heap[g]? = some (.cells (cI l) 33 (0, 0))
  len : l.length = 4
theorem Wo.lt {w : World} {g : Nat} {l : List Int} (h : Wo w g l) : g < w.heap.size := (Array.getElem?_eq_some_iff.1 h.at_).1
theorem Wo.cell {w : World} {g : Nat} {l : List Int} (h : Wo w g l) {j : Nat} (hj : j < l.length) : w.cell? ⟨g, j, none⟩ = some (.int .i64 l[j]) := by
  rw [cell_of_row _ _ _ _ _ _ h.at_]
  exact cI_get hj
theorem Wo.fz {w : World} {g : Nat} {l : List Int} (h : Wo w g l) (j : Nat) : w.frozen? ⟨g, j, none⟩ = false := by simp [World.frozen?, h.at_]
theorem Wo.below {w w' : World} {g : Nat} {l : List Int} (h : Wo w g l) (hb : Below w.heap.size w w') : Wo w' g l := ⟨(hb.block g h.lt).trans h.at_, h.len⟩
theorem Wo.set {w : World} {g : Nat} {l : List Int} (h : Wo w g l) (j : Nat) (v : Int) : Wo (w.setCell ⟨g, j, none⟩ (.int .i64 v)) g (l.set j v) := ⟨by rw [heap_setCell_same _ _ _ _ _ _ h.at_, cI_set], by simp [h.len]⟩
theorem Wo.heapEq {w w' : World} {g : Nat} {l : List Int} (h : Wo w g l) (e : w'.heap = w.heap) : Wo w' g l := ⟨by rw [e]; exact h.at_, h.len⟩
theorem own_far {α : Type} {E : Elt α} {w : World} {base : Nat} {e : TypeId} {q : Option Addr} {d : Nat} {l : List α} (h : Own E w base e q d l) {g : Nat} (hg : g < base) : ∀ b o, q = some ⟨b, o, none⟩ → b ≠ g := by
  rintro b o rfl
  rcases h.2 with ⟨h1, _⟩ | ⟨g', cap, cur, h1, h2, _⟩
  · simp at h1
  · simp at h1
    omega
theorem own_lt {α : Type} {E : Elt α} {w : World} {base : Nat} {e : TypeId} {b o d : Nat} {l : List α} (h : Own E w base e (some ⟨b, o, none⟩) d l) : b < w.heap.size := by
  rcases h.2 with ⟨h1, _⟩ | ⟨g', cap, cur, h1, h2, h3, _⟩
  · simp at h1
  · simp at h1
    have := (Array.getElem?_eq_some_iff.1 h3).1
    omega
theorem three_cells {w : World} {p : Option Addr} {c : Nat} {l : List (Int × Int × Int)} (h : Rd e3 w p c l) (i : Nat) (hi : i < l.length) :
    ∃ b o, p = some ⟨b, o, none⟩ ∧ b < w.heap.size ∧ w.cell? ⟨b, o + i * 3, none⟩ = some (.int .u8 l[i].1) ∧ w.cell? ⟨b, o + i * 3 + 1, none⟩ = some (.int .u8 l[i].2.1) ∧ w.cell? ⟨b, o + i * 3 + 2, none⟩ = some (.int .u8 l[i].2.2) := by
  obtain ⟨b, o, e, hb, hc⟩ := h.cells i hi
  exact ⟨b, o, e, hb, hc 0 _ rfl, hc 1 _ rfl, hc 2 _ rfl⟩
theorem made4 : (madeCells (Value.agg #[.int .i64 0, .int .i64 0]).cells (4 * 2)).toList = fl eS (semW [0, 0, 0, 0]) := by kernel_rfl
theorem make_any (w : World) : ∃ w', (Instr.makeSlice 22 (.int .i64 4) (.int .i64 4)).run Try.prog w = .ok (.slice (some ⟨w.heap.size, 0, none⟩) 4 4) w' ∧ Own eS w' w.heap.size 36 (some ⟨w.heap.size, 0, none⟩) 4 (semW [0, 0, 0, 0]) ∧ Below w.heap.size w w' := by
  obtain ⟨i, hi, h0, h1, h2⟩ := info_parts Try.info36
  obtain ⟨w', hr, ho, hg⟩ := run_make_full (P := Try.prog) w w.heap.size 22 36 i _ 2 Try.underlying22 hi h0 h1 .i64 .i64 4 (by rw [h2]; omega) (by unfold maxLen; omega) (Nat.le_refl _)
  refine ⟨w', hr, ?_, (Below.refl _ _).grown hg (Nat.le_refl _) (fun k hk => by cases hk)⟩
  rw [made4] at ho
  exact ho
set_option maxRecDepth 100000 in
set_option maxHeartbeats 16000000 in
theorem one_walk (p : Option Addr) (c : Nat) (l : List (Int × Int × Int)) (w : World) (hr : Rd e3 w p c l) (n : Nat) (hn : l.length = n) (hz : ∀ y ∈ l, (0 ≤ y.1 ∧ y.1 ≤ 255) ∧ (0 ≤ y.2.1 ∧ y.2.1 ≤ 255) ∧ (0 ≤ y.2.2 ∧ y.2.2 ≤ 255)) :
    Calls Try.prog 4 #[.slice p n c] w fun e w' => e = .returned (.bool true) ∧ Below w.heap.size w w' := by
  have HN : Hid (l.length = n) := hn
  clear hn
  by_cases c1 : 40 < n
  · have d1 : decide ((40 : Int) < (n : Int)) = true := by simp; omega
    go_enter Try.func4, Try.ntmps4
    go_wp2_with (go_at_call 7; refine (begun_any _).mono ?_; rintro e w1 ⟨rfl, b1⟩)
    go_ret
    exact ⟨rfl, b1⟩
  have d1 : decide ((40 : Int) < (n : Int)) = false := by simp; omega
  go_enter Try.func4, Try.ntmps4
  go_wp2_with (go_at_call 7; refine (begun_any _).mono ?_; rintro e w1 ⟨rfl, b1⟩; obtain ⟨wm, hmk, om, bm⟩ := make_any w1)
  have Cm := bel_call b1 (Nat.le_refl _) bm
  have hgw : w.heap.size ≤ wm.heap.size := Cm.size
  have rm := own_rd om
  have fm : ∀ b o, (some ⟨w1.heap.size, 0, none⟩ : Option Addr) = some ⟨b, o, none⟩ → b ≠ wm.heap.size := by
    rintro b o h
    have := own_lt om
    simp at h
    omega
  have bA : Below wm.heap.size wm (wm.alloc (.cells #[.int .i64 0, .int .i64 0, .int .i64 0, .int .i64 0] 33)) := (Below.refl _ _).alloc (Nat.le_refl _) _
  have WA : Wo (wm.alloc (.cells #[.int .i64 0, .int .i64 0, .int .i64 0, .int .i64 0] 33)) wm.heap.size [0, 0, 0, 0] := ⟨heap_alloc_new _ _, rfl⟩
  obtain ⟨gw, hG⟩ : ∃ g, g = wm.heap.size := ⟨_, rfl⟩
  rw [← hG] at hgw fm WA
  simp only [← hG]
  have rA := rm.below bA
  have CA := bel_call Cm (Nat.le_refl _) bA
  clear hmk om bm rm Cm b1
  go_loopw [3, 5] (fun a i wr => ∃ (k : Nat) (q : Option Addr) (d : Nat) (Wh : List Int), k ≤ n ∧ i = .int .i64 k ∧ a = .slice q 4 d ∧ Rd eS wr q d (semW Wh) ∧ Wo wr gw Wh ∧ (∀ b o, q = some ⟨b, o, none⟩ → b ≠ gw) ∧ Below w.heap.size w wr) (fun _ i _ => n - (intOf i).toNat)
  case atStart => exact ⟨0, _, _, [0, 0, 0, 0], by omega, rfl, rfl, rA, WA, fm, CA⟩
  case round =>
    obtain ⟨k, q, d, Wh, hk, rfl, rfl, r0, W0, f0, C0⟩ := hrel
    clear rA WA fm CA bA hG
    by_cases hlt : k < n
    · have hkl : k < l.length := by rw [HN.out]; exact hlt
      obtain ⟨b, o, rfl, hb, x0, x1, x2⟩ := three_cells (hr.below C0) k hkl
      obtain ⟨y0, y1, y2⟩ := hz l[k] (List.getElem_mem hkl)
      clear f0
      have hkI : (k : Int) < (n : Int) := by omega
      have HL4 : Hid ((semW Wh).length = 4) := by rw [semW_length]; exact W0.len
      generalize l[k].1 = X at *
      generalize l[k].2.1 = Y at *
      generalize l[k].2.2 = V at *
      obtain ⟨τ, hτ⟩ : ∃ τ, V % 3 = τ := ⟨_, rfl⟩
      have hτ0 : 0 ≤ τ := by omega
      have hτ2 : τ ≤ 2 := by omega
      obtain ⟨H, hH⟩ : ∃ H, τ + 1 = H := ⟨_, rfl⟩
      have HH : Hid (τ + 1 = H) := hH
      clear hH
      have hSc : Y % 5 = 4 ∨ ∃ σ : Nat, σ < 4 ∧ Y % 5 = (σ : Int) := by
        by_cases h : Y % 5 = 4
        · exact .inl h
        · exact .inr ⟨(Y % 5).toNat, by omega, by omega⟩
      have hXc : X % 4 = 0 ∨ X % 4 = 1 ∨ X % 4 = 2 ∨ X % 4 = 3 := by omega
      rcases hXc with hX | hX | hX | hX
      · rcases hSc with hS | ⟨σ, hσ, hS⟩
        · have dS : decide ((4 : Int) < 4) = false := by decide
          go_wp2
          go_quiet (fail)
          obtain ⟨w1, hw1⟩ : ∃ x, x = wr.drewN nq := ⟨_, rfl⟩
          have b01 : Below wr.heap.size wr w1 := by rw [hw1]; exact bel_draws (Below.refl _ _) nq
          rw [← hw1]
          clear hw1
          have r1 := r0.below b01
          have W1 := W0.below b01
          have W1lt := W1.lt
          have C1 := bel_call C0 (Nat.le_refl _) b01
          have x0 := (b01.cell (p := ⟨b, o + k * 3, none⟩) hb).trans x0
          clear b01
          obtain ⟨⟨hB1, hS1⟩, hB2, hS2⟩ := one_far (l := Wh) (s := 4) (by rw [W1.len]; decide) H
          have HB : Hid (takeB (semW Wh) 4 = false) := hB1
          have HS : Hid (takeS (semW Wh) 4 H = semW Wh) := hS1
          clear hB1 hS1 hB2 hS2
          go_wp2_with (first
            | (go_at_call 8; (with_reducible (refine (take_c _ _ _ _ r1 4 HL4.out (by decide) _ τ H hτ0 (by omega) HH.out false HB.out (semW Wh) HS.out).mono ?_)); (rintro e w2 ⟨q2, d2, rfl, o2, b2⟩; have W2 := W1.below b2)))
          obtain ⟨w9, hw9⟩ : ∃ x, x = w2 := ⟨_, rfl⟩
          obtain ⟨L9, hL9⟩ : ∃ x, x = Wh := ⟨_, rfl⟩
          have r9 : Rd eS w9 q2 d2 (semW L9) := by rw [hw9, hL9]; exact own_rd o2
          have W9 : Wo w9 gw L9 := by rw [hw9, hL9]; exact W2
          have C9 : Below w.heap.size w w9 := by rw [hw9]; exact bel_call C1 (Nat.le_refl _) b2
          have f9 : ∀ b o, q2 = some ⟨b, o, none⟩ → b ≠ gw := own_far o2 W1lt
          rw [← hw9]
          clear hw9 hL9 r1 W1 C1 x0 x1 x2 r0 W0 C0
          try clear dS2
          go_loopw [13] (fun i wq => ∃ j : Nat, j ≤ 4 ∧ i = .int .i64 j ∧ Below w9.heap.size w9 wq) (fun i _ => 4 - (intOf i).toNat)
          case atStart => exact ⟨0, by omega, rfl, Below.refl _ _⟩
          case round =>
            obtain ⟨j, hj, rfl, hbq⟩ := hrel
            by_cases hltj : j < 4
            · have hjl : j < L9.length := by rw [W9.len]; exact hltj
              obtain ⟨b9, o9, rfl, hb9, -, hc9⟩ := (r9.below hbq).sem j (by rw [semW_length]; exact hjl)
              rw [semW_get hjl] at hc9
              have hd9 := (W9.below hbq).cell hjl
              generalize L9[j] = xj at *
              go_wp2
              go_quiet (fail)
              go_wp2
              go_roundw
              case rel => exact ⟨j + 1, by omega, by go_num, bel_draws hbq nq⟩
              case measure => simp [intOf]; omega
            · obtain rfl : j = 4 := by omega
              go_wp2
              go_roundw
              case rel => exact ⟨k + 1, q2, d2, L9, by omega, by go_num, rfl, r9.below hbq, W9.below hbq, f9, bel_call C9 (Nat.le_refl _) hbq⟩
              case measure => simp [intOf]; omega
        · have hσl : σ < Wh.length := by rw [W0.len]; exact hσ
          have dS : decide ((σ : Int) < 4) = true := by simp; omega
          have dS2 : (σ : Int) % 4 = σ := by omega
          have dS3 : (σ : Int) < 4 := by omega
          by_cases h0 : Wh[σ] = 0
          · go_wp2
            go_quiet (fail)
            obtain ⟨w1, hw1⟩ : ∃ x, x = wr.drewN nq := ⟨_, rfl⟩
            have b01 : Below wr.heap.size wr w1 := by rw [hw1]; exact bel_draws (Below.refl _ _) nq
            rw [← hw1]
            clear hw1
            have r1 := r0.below b01
            have W1 := W0.below b01
            have W1lt := W1.lt
            have C1 := bel_call C0 (Nat.le_refl _) b01
            have x0 := (b01.cell (p := ⟨b, o + k * 3, none⟩) hb).trans x0
            clear b01
            obtain ⟨hB1, hS1⟩ := one_take hσl h0 H
            have HB : Hid (takeB (semW Wh) (σ : Int) = true) := hB1
            have HS : Hid (takeS (semW Wh) (σ : Int) H = (semW (Wh.set σ H))) := hS1
            clear hB1 hS1
            have zc := W1.cell hσl
            rw [h0] at zc
            clear h0
            go_wp2_with (first
              | (go_at_call 8; (with_reducible (refine (take_c _ _ _ _ r1 4 HL4.out (by decide) _ τ H hτ0 (by omega) HH.out true HB.out (semW (Wh.set σ H)) HS.out).mono ?_)); (rintro e w2 ⟨q2, d2, rfl, o2, b2⟩; have W2 := W1.below b2; have zd := (b2.cell (p := ⟨gw, σ, none⟩) W1.lt).trans zc; have zf := W2.fz σ; have zf0 := W2.fz (0 + σ))))
            obtain ⟨w9, hw9⟩ : ∃ x, x = w2.setCell ⟨gw, σ, none⟩ (.int .i64 (τ + 1)) := ⟨_, rfl⟩
            obtain ⟨L9, hL9⟩ : ∃ x, x = Wh.set σ H := ⟨_, rfl⟩
            have r9 : Rd eS w9 q2 d2 (semW L9) := by rw [hw9, hL9]; exact rd_kp (own_rd o2) (Kp.set rfl _) (fun b o h _ => own_far o2 W1.lt b o h)
            have W9 : Wo w9 gw L9 := by rw [hw9, hL9]; exact by have h := W2.set σ (τ + 1); rw [HH.out] at h ⊢; exact h
            have C9 : Below w.heap.size w w9 := by rw [hw9]; exact (bel_call C1 (Nat.le_refl _) b2).setCell hgw _
            have f9 : ∀ b o, q2 = some ⟨b, o, none⟩ → b ≠ gw := own_far o2 W1lt
            rw [← hw9]
            clear hw9 hL9 r1 W1 C1 x0 x1 x2 r0 W0 C0
            try clear dS2
            go_loopw [13] (fun i wq => ∃ j : Nat, j ≤ 4 ∧ i = .int .i64 j ∧ Below w9.heap.size w9 wq) (fun i _ => 4 - (intOf i).toNat)
            case atStart => exact ⟨0, by omega, rfl, Below.refl _ _⟩
            case round =>
              obtain ⟨j, hj, rfl, hbq⟩ := hrel
              by_cases hltj : j < 4
              · have hjl : j < L9.length := by rw [W9.len]; exact hltj
                obtain ⟨b9, o9, rfl, hb9, -, hc9⟩ := (r9.below hbq).sem j (by rw [semW_length]; exact hjl)
                rw [semW_get hjl] at hc9
                have hd9 := (W9.below hbq).cell hjl
                generalize L9[j] = xj at *
                go_wp2
                go_quiet (fail)
                go_wp2
                go_roundw
                case rel => exact ⟨j + 1, by omega, by go_num, bel_draws hbq nq⟩
                case measure => simp [intOf]; omega
              · obtain rfl : j = 4 := by omega
                go_wp2
                go_roundw
                case rel => exact ⟨k + 1, q2, d2, L9, by omega, by go_num, rfl, r9.below hbq, W9.below hbq, f9, bel_call C9 (Nat.le_refl _) hbq⟩
                case measure => simp [intOf]; omega
          · go_wp2
            go_quiet (fail)
            obtain ⟨w1, hw1⟩ : ∃ x, x = wr.drewN nq := ⟨_, rfl⟩
            have b01 : Below wr.heap.size wr w1 := by rw [hw1]; exact bel_draws (Below.refl _ _) nq
            rw [← hw1]
            clear hw1
            have r1 := r0.below b01
            have W1 := W0.below b01
            have W1lt := W1.lt
            have C1 := bel_call C0 (Nat.le_refl _) b01
            have x0 := (b01.cell (p := ⟨b, o + k * 3, none⟩) hb).trans x0
            clear b01
            obtain ⟨hB1, hS1⟩ := one_held hσl h0 H
            have HB : Hid (takeB (semW Wh) (σ : Int) = false) := hB1
            have HS : Hid (takeS (semW Wh) (σ : Int) H = (semW Wh)) := hS1
            clear hB1 hS1
            have zc := W1.cell hσl
            obtain ⟨xk, hxk⟩ : ∃ xk, Wh[σ] = xk := ⟨_, rfl⟩
            rw [hxk] at zc h0
            have he1 : (xk == 0) = false := by simpa using h0
            clear h0 hxk
            go_wp2_with (first
              | (go_at_call 8; (with_reducible (refine (take_c _ _ _ _ r1 4 HL4.out (by decide) _ τ H hτ0 (by omega) HH.out false HB.out (semW Wh) HS.out).mono ?_)); (rintro e w2 ⟨q2, d2, rfl, o2, b2⟩; have W2 := W1.below b2; have zd := (b2.cell (p := ⟨gw, σ, none⟩) W1.lt).trans zc; have zf := W2.fz σ; have zf0 := W2.fz (0 + σ))))
            obtain ⟨w9, hw9⟩ : ∃ x, x = w2 := ⟨_, rfl⟩
            obtain ⟨L9, hL9⟩ : ∃ x, x = Wh := ⟨_, rfl⟩
            have r9 : Rd eS w9 q2 d2 (semW L9) := by rw [hw9, hL9]; exact own_rd o2
            have W9 : Wo w9 gw L9 := by rw [hw9, hL9]; exact W2
            have C9 : Below w.heap.size w w9 := by rw [hw9]; exact bel_call C1 (Nat.le_refl _) b2
            have f9 : ∀ b o, q2 = some ⟨b, o, none⟩ → b ≠ gw := own_far o2 W1lt
            rw [← hw9]
            clear hw9 hL9 r1 W1 C1 x0 x1 x2 r0 W0 C0
            try clear dS2
            go_loopw [13] (fun i wq => ∃ j : Nat, j ≤ 4 ∧ i = .int .i64 j ∧ Below w9.heap.size w9 wq) (fun i _ => 4 - (intOf i).toNat)
            case atStart => exact ⟨0, by omega, rfl, Below.refl _ _⟩
            case round =>
              obtain ⟨j, hj, rfl, hbq⟩ := hrel
              by_cases hltj : j < 4
              · have hjl : j < L9.length := by rw [W9.len]; exact hltj
                obtain ⟨b9, o9, rfl, hb9, -, hc9⟩ := (r9.below hbq).sem j (by rw [semW_length]; exact hjl)
                rw [semW_get hjl] at hc9
                have hd9 := (W9.below hbq).cell hjl
                generalize L9[j] = xj at *
                go_wp2
                go_quiet (fail)
                go_wp2
                go_roundw
                case rel => exact ⟨j + 1, by omega, by go_num, bel_draws hbq nq⟩
                case measure => simp [intOf]; omega
              · obtain rfl : j = 4 := by omega
                go_wp2
                go_roundw
                case rel => exact ⟨k + 1, q2, d2, L9, by omega, by go_num, rfl, r9.below hbq, W9.below hbq, f9, bel_call C9 (Nat.le_refl _) hbq⟩
                case measure => simp [intOf]; omega
      · rcases hSc with hS | ⟨σ, hσ, hS⟩
        · have dS : decide ((4 : Int) < 4) = false := by decide
          go_wp2
          go_quiet (fail)
          obtain ⟨w1, hw1⟩ : ∃ x, x = wr.drewN nq := ⟨_, rfl⟩
          have b01 : Below wr.heap.size wr w1 := by rw [hw1]; exact bel_draws (Below.refl _ _) nq
          rw [← hw1]
          clear hw1
          have r1 := r0.below b01
          have W1 := W0.below b01
          have W1lt := W1.lt
          have C1 := bel_call C0 (Nat.le_refl _) b01
          have x0 := (b01.cell (p := ⟨b, o + k * 3, none⟩) hb).trans x0
          clear b01
          obtain ⟨⟨hB1, hS1⟩, hB2, hS2⟩ := one_far (l := Wh) (s := 4) (by rw [W1.len]; decide) H
          have HB : Hid (takeB (semW Wh) 4 = false) := hB1
          have HS : Hid (takeS (semW Wh) 4 H = semW Wh) := hS1
          clear hB1 hS1 hB2 hS2
          go_wp2_with (first
            | (go_at_call 8; (with_reducible (refine (take_c _ _ _ _ r1 4 HL4.out (by decide) _ τ H hτ0 (by omega) HH.out false HB.out (semW Wh) HS.out).mono ?_)); (rintro e w2 ⟨q2, d2, rfl, o2, b2⟩; have W2 := W1.below b2)))
          obtain ⟨w9, hw9⟩ : ∃ x, x = w2 := ⟨_, rfl⟩
          obtain ⟨L9, hL9⟩ : ∃ x, x = Wh := ⟨_, rfl⟩
          have r9 : Rd eS w9 q2 d2 (semW L9) := by rw [hw9, hL9]; exact own_rd o2
          have W9 : Wo w9 gw L9 := by rw [hw9, hL9]; exact W2
          have C9 : Below w.heap.size w w9 := by rw [hw9]; exact bel_call C1 (Nat.le_refl _) b2
          have f9 : ∀ b o, q2 = some ⟨b, o, none⟩ → b ≠ gw := own_far o2 W1lt
          rw [← hw9]
          clear hw9 hL9 r1 W1 C1 x0 x1 x2 r0 W0 C0
          try clear dS2
          go_loopw [13] (fun i wq => ∃ j : Nat, j ≤ 4 ∧ i = .int .i64 j ∧ Below w9.heap.size w9 wq) (fun i _ => 4 - (intOf i).toNat)
          case atStart => exact ⟨0, by omega, rfl, Below.refl _ _⟩
          case round =>
            obtain ⟨j, hj, rfl, hbq⟩ := hrel
            by_cases hltj : j < 4
            · have hjl : j < L9.length := by rw [W9.len]; exact hltj
              obtain ⟨b9, o9, rfl, hb9, -, hc9⟩ := (r9.below hbq).sem j (by rw [semW_length]; exact hjl)
              rw [semW_get hjl] at hc9
              have hd9 := (W9.below hbq).cell hjl
              generalize L9[j] = xj at *
              go_wp2
              go_quiet (fail)
              go_wp2
              go_roundw
              case rel => exact ⟨j + 1, by omega, by go_num, bel_draws hbq nq⟩
              case measure => simp [intOf]; omega
            · obtain rfl : j = 4 := by omega
              go_wp2
              go_roundw
              case rel => exact ⟨k + 1, q2, d2, L9, by omega, by go_num, rfl, r9.below hbq, W9.below hbq, f9, bel_call C9 (Nat.le_refl _) hbq⟩
              case measure => simp [intOf]; omega
        · have hσl : σ < Wh.length := by rw [W0.len]; exact hσ
          have dS : decide ((σ : Int) < 4) = true := by simp; omega
          have dS2 : (σ : Int) % 4 = σ := by omega
          have dS3 : (σ : Int) < 4 := by omega
          by_cases h0 : Wh[σ] = 0
          · go_wp2
            go_quiet (fail)
            obtain ⟨w1, hw1⟩ : ∃ x, x = wr.drewN nq := ⟨_, rfl⟩
            have b01 : Below wr.heap.size wr w1 := by rw [hw1]; exact bel_draws (Below.refl _ _) nq
            rw [← hw1]
            clear hw1
            have r1 := r0.below b01
            have W1 := W0.below b01
            have W1lt := W1.lt
            have C1 := bel_call C0 (Nat.le_refl _) b01
            have x0 := (b01.cell (p := ⟨b, o + k * 3, none⟩) hb).trans x0
            clear b01
            obtain ⟨hB1, hS1⟩ := one_take hσl h0 H
            have HB : Hid (takeB (semW Wh) (σ : Int) = true) := hB1
            have HS : Hid (takeS (semW Wh) (σ : Int) H = (semW (Wh.set σ H))) := hS1
            clear hB1 hS1
            have zc := W1.cell hσl
            rw [h0] at zc
            clear h0
            go_wp2_with (first
              | (go_at_call 8; (with_reducible (refine (take_c _ _ _ _ r1 4 HL4.out (by decide) _ τ H hτ0 (by omega) HH.out true HB.out (semW (Wh.set σ H)) HS.out).mono ?_)); (rintro e w2 ⟨q2, d2, rfl, o2, b2⟩; have W2 := W1.below b2; have zd := (b2.cell (p := ⟨gw, σ, none⟩) W1.lt).trans zc; have zf := W2.fz σ; have zf0 := W2.fz (0 + σ))))
            obtain ⟨w9, hw9⟩ : ∃ x, x = w2.setCell ⟨gw, σ, none⟩ (.int .i64 (τ + 1)) := ⟨_, rfl⟩
            obtain ⟨L9, hL9⟩ : ∃ x, x = Wh.set σ H := ⟨_, rfl⟩
            have r9 : Rd eS w9 q2 d2 (semW L9) := by rw [hw9, hL9]; exact rd_kp (own_rd o2) (Kp.set rfl _) (fun b o h _ => own_far o2 W1.lt b o h)
            have W9 : Wo w9 gw L9 := by rw [hw9, hL9]; exact by have h := W2.set σ (τ + 1); rw [HH.out] at h ⊢; exact h
            have C9 : Below w.heap.size w w9 := by rw [hw9]; exact (bel_call C1 (Nat.le_refl _) b2).setCell hgw _
            have f9 : ∀ b o, q2 = some ⟨b, o, none⟩ → b ≠ gw := own_far o2 W1lt
            rw [← hw9]
            clear hw9 hL9 r1 W1 C1 x0 x1 x2 r0 W0 C0
            try clear dS2
            go_loopw [13] (fun i wq => ∃ j : Nat, j ≤ 4 ∧ i = .int .i64 j ∧ Below w9.heap.size w9 wq) (fun i _ => 4 - (intOf i).toNat)
            case atStart => exact ⟨0, by omega, rfl, Below.refl _ _⟩
            case round =>
              obtain ⟨j, hj, rfl, hbq⟩ := hrel
              by_cases hltj : j < 4
              · have hjl : j < L9.length := by rw [W9.len]; exact hltj
                obtain ⟨b9, o9, rfl, hb9, -, hc9⟩ := (r9.below hbq).sem j (by rw [semW_length]; exact hjl)
                rw [semW_get hjl] at hc9
                have hd9 := (W9.below hbq).cell hjl
                generalize L9[j] = xj at *
                go_wp2
                go_quiet (fail)
                go_wp2
                go_roundw
                case rel => exact ⟨j + 1, by omega, by go_num, bel_draws hbq nq⟩
                case measure => simp [intOf]; omega
              · obtain rfl : j = 4 := by omega
                go_wp2
                go_roundw
                case rel => exact ⟨k + 1, q2, d2, L9, by omega, by go_num, rfl, r9.below hbq, W9.below hbq, f9, bel_call C9 (Nat.le_refl _) hbq⟩
                case measure => simp [intOf]; omega
          · go_wp2
            go_quiet (fail)
            obtain ⟨w1, hw1⟩ : ∃ x, x = wr.drewN nq := ⟨_, rfl⟩
            have b01 : Below wr.heap.size wr w1 := by rw [hw1]; exact bel_draws (Below.refl _ _) nq
            rw [← hw1]
            clear hw1
            have r1 := r0.below b01
            have W1 := W0.below b01
            have W1lt := W1.lt
            have C1 := bel_call C0 (Nat.le_refl _) b01
            have x0 := (b01.cell (p := ⟨b, o + k * 3, none⟩) hb).trans x0
            clear b01
            obtain ⟨hB1, hS1⟩ := one_held hσl h0 H
            have HB : Hid (takeB (semW Wh) (σ : Int) = false) := hB1
            have HS : Hid (takeS (semW Wh) (σ : Int) H = (semW Wh)) := hS1
            clear hB1 hS1
            have zc := W1.cell hσl
            obtain ⟨xk, hxk⟩ : ∃ xk, Wh[σ] = xk := ⟨_, rfl⟩
            rw [hxk] at zc h0
            have he1 : (xk == 0) = false := by simpa using h0
            clear h0 hxk
            go_wp2_with (first
              | (go_at_call 8; (with_reducible (refine (take_c _ _ _ _ r1 4 HL4.out (by decide) _ τ H hτ0 (by omega) HH.out false HB.out (semW Wh) HS.out).mono ?_)); (rintro e w2 ⟨q2, d2, rfl, o2, b2⟩; have W2 := W1.below b2; have zd := (b2.cell (p := ⟨gw, σ, none⟩) W1.lt).trans zc; have zf := W2.fz σ; have zf0 := W2.fz (0 + σ))))
            obtain ⟨w9, hw9⟩ : ∃ x, x = w2 := ⟨_, rfl⟩
            obtain ⟨L9, hL9⟩ : ∃ x, x = Wh := ⟨_, rfl⟩
            have r9 : Rd eS w9 q2 d2 (semW L9) := by rw [hw9, hL9]; exact own_rd o2
            have W9 : Wo w9 gw L9 := by rw [hw9, hL9]; exact W2
            have C9 : Below w.heap.size w w9 := by rw [hw9]; exact bel_call C1 (Nat.le_refl _) b2
            have f9 : ∀ b o, q2 = some ⟨b, o, none⟩ → b ≠ gw := own_far o2 W1lt
            rw [← hw9]
            clear hw9 hL9 r1 W1 C1 x0 x1 x2 r0 W0 C0
            try clear dS2
            go_loopw [13] (fun i wq => ∃ j : Nat, j ≤ 4 ∧ i = .int .i64 j ∧ Below w9.heap.size w9 wq) (fun i _ => 4 - (intOf i).toNat)
            case atStart => exact ⟨0, by omega, rfl, Below.refl _ _⟩
            case round =>
              obtain ⟨j, hj, rfl, hbq⟩ := hrel
              by_cases hltj : j < 4
              · have hjl : j < L9.length := by rw [W9.len]; exact hltj
                obtain ⟨b9, o9, rfl, hb9, -, hc9⟩ := (r9.below hbq).sem j (by rw [semW_length]; exact hjl)
                rw [semW_get hjl] at hc9
                have hd9 := (W9.below hbq).cell hjl
                generalize L9[j] = xj at *
                go_wp2
                go_quiet (fail)
                go_wp2
                go_roundw
                case rel => exact ⟨j + 1, by omega, by go_num, bel_draws hbq nq⟩
                case measure => simp [intOf]; omega
              · obtain rfl : j = 4 := by omega
                go_wp2
                go_roundw
                case rel => exact ⟨k + 1, q2, d2, L9, by omega, by go_num, rfl, r9.below hbq, W9.below hbq, f9, bel_call C9 (Nat.le_refl _) hbq⟩
                case measure => simp [intOf]; omega
      · rcases hSc with hS | ⟨σ, hσ, hS⟩
        · have dS : decide ((4 : Int) < 4) = false := by decide
          go_wp2
          go_quiet (fail)
          obtain ⟨w1, hw1⟩ : ∃ x, x = wr.drewN nq := ⟨_, rfl⟩
          have b01 : Below wr.heap.size wr w1 := by rw [hw1]; exact bel_draws (Below.refl _ _) nq
          rw [← hw1]
          clear hw1
          have r1 := r0.below b01
          have W1 := W0.below b01
          have W1lt := W1.lt
          have C1 := bel_call C0 (Nat.le_refl _) b01
          have x0 := (b01.cell (p := ⟨b, o + k * 3, none⟩) hb).trans x0
          clear b01
          obtain ⟨⟨hB1, hS1⟩, hB2, hS2⟩ := one_far (l := Wh) (s := 4) (by rw [W1.len]; decide) H
          have HB : Hid (letB (semW Wh) 4 H = false) := hB2
          have HS : Hid (letS (semW Wh) 4 H = semW Wh) := hS2
          clear hB1 hS1 hB2 hS2
          go_wp2_with (first
            | (go_at_call 10; (with_reducible (refine (let_c _ _ _ _ r1 4 HL4.out (by decide) _ τ H hτ0 (by omega) HH.out false HB.out (semW Wh) HS.out).mono ?_)); (rintro e w2 ⟨q2, d2, rfl, o2, b2⟩; have W2 := W1.below b2)))
          obtain ⟨w9, hw9⟩ : ∃ x, x = w2 := ⟨_, rfl⟩
          obtain ⟨L9, hL9⟩ : ∃ x, x = Wh := ⟨_, rfl⟩
          have r9 : Rd eS w9 q2 d2 (semW L9) := by rw [hw9, hL9]; exact own_rd o2
          have W9 : Wo w9 gw L9 := by rw [hw9, hL9]; exact W2
          have C9 : Below w.heap.size w w9 := by rw [hw9]; exact bel_call C1 (Nat.le_refl _) b2
          have f9 : ∀ b o, q2 = some ⟨b, o, none⟩ → b ≠ gw := own_far o2 W1lt
          rw [← hw9]
          clear hw9 hL9 r1 W1 C1 x0 x1 x2 r0 W0 C0
          try clear dS2
          go_loopw [13] (fun i wq => ∃ j : Nat, j ≤ 4 ∧ i = .int .i64 j ∧ Below w9.heap.size w9 wq) (fun i _ => 4 - (intOf i).toNat)
          case atStart => exact ⟨0, by omega, rfl, Below.refl _ _⟩
          case round =>
            obtain ⟨j, hj, rfl, hbq⟩ := hrel
            by_cases hltj : j < 4
            · have hjl : j < L9.length := by rw [W9.len]; exact hltj
              obtain ⟨b9, o9, rfl, hb9, -, hc9⟩ := (r9.below hbq).sem j (by rw [semW_length]; exact hjl)
              rw [semW_get hjl] at hc9
              have hd9 := (W9.below hbq).cell hjl
              generalize L9[j] = xj at *
              go_wp2
              go_quiet (fail)
              go_wp2
              go_roundw
              case rel => exact ⟨j + 1, by omega, by go_num, bel_draws hbq nq⟩
              case measure => simp [intOf]; omega
            · obtain rfl : j = 4 := by omega
              go_wp2
              go_roundw
              case rel => exact ⟨k + 1, q2, d2, L9, by omega, by go_num, rfl, r9.below hbq, W9.below hbq, f9, bel_call C9 (Nat.le_refl _) hbq⟩
              case measure => simp [intOf]; omega
        · have hσl : σ < Wh.length := by rw [W0.len]; exact hσ
          have dS : decide ((σ : Int) < 4) = true := by simp; omega
          have dS2 : (σ : Int) % 4 = σ := by omega
          have dS3 : (σ : Int) < 4 := by omega
          by_cases h0 : Wh[σ] = H
          · go_wp2
            go_quiet (fail)
            obtain ⟨w1, hw1⟩ : ∃ x, x = wr.drewN nq := ⟨_, rfl⟩
            have b01 : Below wr.heap.size wr w1 := by rw [hw1]; exact bel_draws (Below.refl _ _) nq
            rw [← hw1]
            clear hw1
            have r1 := r0.below b01
            have W1 := W0.below b01
            have W1lt := W1.lt
            have C1 := bel_call C0 (Nat.le_refl _) b01
            have x0 := (b01.cell (p := ⟨b, o + k * 3, none⟩) hb).trans x0
            clear b01
            obtain ⟨hB1, hS1⟩ := one_let hσl h0
            have HB : Hid (letB (semW Wh) (σ : Int) H = true) := hB1
            have HS : Hid (letS (semW Wh) (σ : Int) H = (semW (Wh.set σ 0))) := hS1
            clear hB1 hS1
            have zc := W1.cell hσl
            rw [h0, ← HH.out] at zc
            clear h0
            go_wp2_with (first
              | (go_at_call 10; (with_reducible (refine (let_c _ _ _ _ r1 4 HL4.out (by decide) _ τ H hτ0 (by omega) HH.out true HB.out (semW (Wh.set σ 0)) HS.out).mono ?_)); (rintro e w2 ⟨q2, d2, rfl, o2, b2⟩; have W2 := W1.below b2; have zd := (b2.cell (p := ⟨gw, σ, none⟩) W1.lt).trans zc; have zf := W2.fz σ; have zf0 := W2.fz (0 + σ))))
            obtain ⟨w9, hw9⟩ : ∃ x, x = w2.setCell ⟨gw, σ, none⟩ (.int .i64 0) := ⟨_, rfl⟩
            obtain ⟨L9, hL9⟩ : ∃ x, x = Wh.set σ 0 := ⟨_, rfl⟩
            have r9 : Rd eS w9 q2 d2 (semW L9) := by rw [hw9, hL9]; exact rd_kp (own_rd o2) (Kp.set rfl _) (fun b o h _ => own_far o2 W1.lt b o h)
            have W9 : Wo w9 gw L9 := by rw [hw9, hL9]; exact W2.set σ 0
            have C9 : Below w.heap.size w w9 := by rw [hw9]; exact (bel_call C1 (Nat.le_refl _) b2).setCell hgw _
            have f9 : ∀ b o, q2 = some ⟨b, o, none⟩ → b ≠ gw := own_far o2 W1lt
            rw [← hw9]
            clear hw9 hL9 r1 W1 C1 x0 x1 x2 r0 W0 C0
            try clear dS2
            go_loopw [13] (fun i wq => ∃ j : Nat, j ≤ 4 ∧ i = .int .i64 j ∧ Below w9.heap.size w9 wq) (fun i _ => 4 - (intOf i).toNat)
            case atStart => exact ⟨0, by omega, rfl, Below.refl _ _⟩
            case round =>
              obtain ⟨j, hj, rfl, hbq⟩ := hrel
              by_cases hltj : j < 4
              · have hjl : j < L9.length := by rw [W9.len]; exact hltj
                obtain ⟨b9, o9, rfl, hb9, -, hc9⟩ := (r9.below hbq).sem j (by rw [semW_length]; exact hjl)
                rw [semW_get hjl] at hc9
                have hd9 := (W9.below hbq).cell hjl
                generalize L9[j] = xj at *
                go_wp2
                go_quiet (fail)
                go_wp2
                go_roundw
                case rel => exact ⟨j + 1, by omega, by go_num, bel_draws hbq nq⟩
                case measure => simp [intOf]; omega
              · obtain rfl : j = 4 := by omega
                go_wp2
                go_roundw
                case rel => exact ⟨k + 1, q2, d2, L9, by omega, by go_num, rfl, r9.below hbq, W9.below hbq, f9, bel_call C9 (Nat.le_refl _) hbq⟩
                case measure => simp [intOf]; omega
          · go_wp2
            go_quiet (fail)
            obtain ⟨w1, hw1⟩ : ∃ x, x = wr.drewN nq := ⟨_, rfl⟩
            have b01 : Below wr.heap.size wr w1 := by rw [hw1]; exact bel_draws (Below.refl _ _) nq
            rw [← hw1]
            clear hw1
            have r1 := r0.below b01
            have W1 := W0.below b01
            have W1lt := W1.lt
            have C1 := bel_call C0 (Nat.le_refl _) b01
            have x0 := (b01.cell (p := ⟨b, o + k * 3, none⟩) hb).trans x0
            clear b01
            obtain ⟨hB1, hS1⟩ := one_not hσl h0
            have HB : Hid (letB (semW Wh) (σ : Int) H = false) := hB1
            have HS : Hid (letS (semW Wh) (σ : Int) H = (semW Wh)) := hS1
            clear hB1 hS1
            have zc := W1.cell hσl
            obtain ⟨xk, hxk⟩ : ∃ xk, Wh[σ] = xk := ⟨_, rfl⟩
            rw [hxk] at zc h0
            have he1 : (xk == τ + 1) = false := by rw [HH.out]; simpa using h0
            clear h0 hxk
            go_wp2_with (first
              | (go_at_call 10; (with_reducible (refine (let_c _ _ _ _ r1 4 HL4.out (by decide) _ τ H hτ0 (by omega) HH.out false HB.out (semW Wh) HS.out).mono ?_)); (rintro e w2 ⟨q2, d2, rfl, o2, b2⟩; have W2 := W1.below b2; have zd := (b2.cell (p := ⟨gw, σ, none⟩) W1.lt).trans zc; have zf := W2.fz σ; have zf0 := W2.fz (0 + σ))))
            obtain ⟨w9, hw9⟩ : ∃ x, x = w2 := ⟨_, rfl⟩
            obtain ⟨L9, hL9⟩ : ∃ x, x = Wh := ⟨_, rfl⟩
            have r9 : Rd eS w9 q2 d2 (semW L9) := by rw [hw9, hL9]; exact own_rd o2
            have W9 : Wo w9 gw L9 := by rw [hw9, hL9]; exact W2
            have C9 : Below w.heap.size w w9 := by rw [hw9]; exact bel_call C1 (Nat.le_refl _) b2
            have f9 : ∀ b o, q2 = some ⟨b, o, none⟩ → b ≠ gw := own_far o2 W1lt
            rw [← hw9]
            clear hw9 hL9 r1 W1 C1 x0 x1 x2 r0 W0 C0
            try clear dS2
            go_loopw [13] (fun i wq => ∃ j : Nat, j ≤ 4 ∧ i = .int .i64 j ∧ Below w9.heap.size w9 wq) (fun i _ => 4 - (intOf i).toNat)
            case atStart => exact ⟨0, by omega, rfl, Below.refl _ _⟩
            case round =>
              obtain ⟨j, hj, rfl, hbq⟩ := hrel
              by_cases hltj : j < 4
              · have hjl : j < L9.length := by rw [W9.len]; exact hltj
                obtain ⟨b9, o9, rfl, hb9, -, hc9⟩ := (r9.below hbq).sem j (by rw [semW_length]; exact hjl)
                rw [semW_get hjl] at hc9
                have hd9 := (W9.below hbq).cell hjl
                generalize L9[j] = xj at *
                go_wp2
                go_quiet (fail)
                go_wp2
                go_roundw
                case rel => exact ⟨j + 1, by omega, by go_num, bel_draws hbq nq⟩
                case measure => simp [intOf]; omega
              · obtain rfl : j = 4 := by omega
                go_wp2
                go_roundw
                case rel => exact ⟨k + 1, q2, d2, L9, by omega, by go_num, rfl, r9.below hbq, W9.below hbq, f9, bel_call C9 (Nat.le_refl _) hbq⟩
                case measure => simp [intOf]; omega
      · go_wp2
        go_quiet (fail)
        obtain ⟨w1, hw1⟩ : ∃ x, x = wr.drewN nq := ⟨_, rfl⟩
        have b01 : Below wr.heap.size wr w1 := by rw [hw1]; exact bel_draws (Below.refl _ _) nq
        rw [← hw1]
        clear hw1
        have r1 := r0.below b01
        have W1 := W0.below b01
        have W1lt := W1.lt
        have C1 := bel_call C0 (Nat.le_refl _) b01
        have x0 := (b01.cell (p := ⟨b, o + k * 3, none⟩) hb).trans x0
        clear b01
        go_wp2_with (first
          | (go_at_call 15; (with_reducible (refine (all_any _ _ _ _ r1 4 HL4.out (by decide) τ H hτ0 (by omega) HH.out).mono ?_)); (rintro e w2 ⟨q2, d2, rfl, o2, b2⟩; have W2 := W1.below b2)))
        have f2 := own_far o2 W1lt
        have r2 := own_rd o2
        have C2 := bel_call C1 (Nat.le_refl _) b2
        clear o2 b2
        go_loopw [12] (fun i wq => ∃ j : Nat, j ≤ 4 ∧ i = .int .i64 j ∧ Wo wq gw (goW Wh H j) ∧ Rd eS wq q2 d2 (allS (semW Wh) H) ∧ Below w.heap.size w wq) (fun i _ => 4 - (intOf i).toNat)
        case atStart => exact ⟨0, by omega, rfl, by rw [goW_zero]; exact W2, r2, C2⟩
        case round =>
          obtain ⟨j, hj, rfl, Wj, rj, Cj⟩ := hrel
          clear W2 r2 C2
          by_cases hltj : j < 4
          · have hjl : j < Wh.length := by rw [W0.len]; exact hltj
            have zc := Wj.cell (j := j) (by rw [goW_length]; exact hjl)
            rw [goW_get hjl] at zc
            have zf := Wj.fz j
            have zf0 := Wj.fz (0 + j)
            by_cases he : Wh[j] = H
            · rw [he, ← HH.out] at zc
              have HE : Hid (goW Wh H (j + 1) = (goW Wh H j).set j 0) := by
                have h := goW_succ (H := H) hjl
                rw [he] at h
                simpa [frW, Hid] using h
              have HJ : Hid (Wo (wr.setCell ⟨gw, j, none⟩ (.int .i64 0)) gw ((goW Wh H j).set j 0)) := Wj.set j 0
              clear he
              go_wp2
              go_roundw
              case rel => exact ⟨j + 1, by omega, by go_num, by rw [HE.out]; exact HJ.out, rd_kp rj (Kp.set rfl _) (fun b o h _ => f2 b o h), Cj.setCell hgw _⟩
              case measure => simp [intOf]; omega
            · obtain ⟨xk, hxk⟩ : ∃ xk, Wh[j] = xk := ⟨_, rfl⟩
              have HE : Hid (goW Wh H (j + 1) = goW Wh H j) := goW_same hjl he
              rw [hxk] at zc he
              have he1 : (xk == τ + 1) = false := by rw [HH.out]; simpa using he
              clear he hxk
              go_wp2
              go_roundw
              case rel => exact ⟨j + 1, by omega, by go_num, by rw [HE.out]; exact Wj, rj, Cj⟩
              case measure => simp [intOf]; omega
          · have dj : decide ((j : Int) < 4) = false := by simp; omega
            have hG : semW (goW Wh H j) = allS (semW Wh) H := goW_all (by rw [W0.len]; omega)
            rw [← hG] at rj
            clear hG
            go_wp2
            obtain ⟨w9, hw9⟩ : ∃ x, x = wr := ⟨_, rfl⟩
            obtain ⟨L9, hL9⟩ : ∃ x, x = goW Wh H j := ⟨_, rfl⟩
            have r9 : Rd eS w9 q2 d2 (semW L9) := by rw [hw9, hL9]; exact rj
            have W9 : Wo w9 gw L9 := by rw [hw9, hL9]; exact Wj
            have C9 : Below w.heap.size w w9 := by rw [hw9]; exact Cj
            have f9 : ∀ b o, q2 = some ⟨b, o, none⟩ → b ≠ gw := f2
            rw [← hw9]
            clear hw9 hL9 r1 W1 C1 x0 x1 x2 r0 W0 C0
            try clear dS2
            go_loopw [13] (fun i wq => ∃ j9 : Nat, j9 ≤ 4 ∧ i = .int .i64 j9 ∧ Below w9.heap.size w9 wq) (fun i _ => 4 - (intOf i).toNat)
            case atStart => exact ⟨0, by omega, rfl, Below.refl _ _⟩
            case round =>
              obtain ⟨j9, hj9, rfl, hbq⟩ := hrel
              by_cases hltj9 : j9 < 4
              · have hjl9 : j9 < L9.length := by rw [W9.len]; exact hltj9
                obtain ⟨b9, o9, rfl, hb9, -, hc9⟩ := (r9.below hbq).sem j9 (by rw [semW_length]; exact hjl9)
                rw [semW_get hjl9] at hc9
                have hd9 := (W9.below hbq).cell hjl9
                generalize L9[j9] = xj at *
                go_wp2
                go_quiet (fail)
                go_wp2
                go_roundw
                case rel => exact ⟨j9 + 1, by omega, by go_num, bel_draws hbq nq⟩
                case measure => simp [intOf]; omega
              · obtain rfl : j9 = 4 := by omega
                go_wp2
                go_roundw
                case rel => exact ⟨k + 1, q2, d2, L9, by omega, by go_num, rfl, r9.below hbq, W9.below hbq, f9, bel_call C9 (Nat.le_refl _) hbq⟩
                case measure => simp [intOf]; omega
    · obtain rfl : k = n := by omega
      go_wp2
      go_ret
      exact ⟨rfl, C0⟩
end Go.Proofs.Ytfankdhkcjknaaa
