/-
  The law MboxOrder, walked.
-/
import Derived.Test.YtfghondhonflaaaWaitsWalk
namespace Go.Proofs.Ytfghondhonflaaa
open Go.ChangeShapes Go.WideShapes Go.ChangeAt Go.RowKit
attribute [local go_sem ↓] Go.wp_at_zero Go.wp_at_succ

/-- the letters behind the first c up to the p-th -/
def seqI (c p : Nat) : List Int := (List.range (p - c)).map fun (i : Nat) => (c : Int) + 1 + i
theorem seqI_len (c p : Nat) : (seqI c p).length = p - c := by simp [seqI]
theorem seqI_same (c : Nat) : seqI c c = [] := by simp [seqI]
theorem seqI_head {c p : Nat} (h : c < p) : seqI c p = ((c : Int) + 1) :: seqI (c + 1) p := by
  obtain ⟨d, hd⟩ : ∃ d, p - c = d + 1 := ⟨p - c - 1, by omega⟩
  have hd2 : p - (c + 1) = d := by omega
  simp only [seqI, hd, hd2, List.range_succ_eq_map, List.map_cons, List.map_map]
  congr 1
  apply List.map_congr_left
  intro i _
  simp only [Function.comp]
  omega
theorem seqI_snoc {c p : Nat} (h : c ≤ p) : seqI c (p + 1) = seqI c p ++ [(p : Int) + 1] := by
  have hd : p + 1 - c = (p - c) + 1 := by omega
  simp only [seqI, hd, List.range_succ, List.map_append, List.map_cons, List.map_nil]
  congr 2
  omega
set_option maxRecDepth 100000 in
set_option maxHeartbeats 16000000 in
theorem order_walk (p : Option Addr) (c : Nat) (zs : List Int) (w : World) (hr : Rd eB w p c zs) (n : Nat) (hn : zs.length = n) (hz : ∀ y ∈ zs, 0 ≤ y ∧ y ≤ 255) :
    Calls Try.prog 4 #[.slice p n c] w fun e w' => e = .returned (.bool true) ∧ Below w.heap.size w w' := by
  have HN : Hid (zs.length = n) := hn
  clear hn
  obtain ⟨w0, hw0⟩ : ∃ x, x = w := ⟨_, rfl⟩
  subst hw0
  by_cases c1 : 60 < n
  · have d1 : decide ((60 : Int) < (n : Int)) = true := by simp; omega
    go_enter Try.func4, Try.ntmps4
    go_wp2_with (go_at_call 7; refine (begun_any _).mono ?_; rintro e w1 ⟨rfl, b1⟩)
    go_ret
    exact ⟨rfl, b1⟩
  have d1 : decide ((60 : Int) < (n : Int)) = false := by simp; omega
  go_enter Try.func4, Try.ntmps4
  go_wp2_with (go_at_call 7; refine (begun_any _).mono ?_; rintro e w1 ⟨rfl, b1⟩)
  obtain ⟨W, hW⟩ : ∃ W, W = w1.alloc (.cells #[.slice none 0 0, .slice none 0 0] 25) := ⟨_, rfl⟩
  have s1 := bel_self w1 (.cells #[.slice none 0 0, .slice none 0 0] 25)
  have v1 := BV.new w1 none 0 0 none 0 0
  rw [← hW] at s1 v1 ⊢
  have B1 := bel_call b1 (Nat.le_refl _) s1
  obtain ⟨gb, hgb⟩ : ∃ g, g = w1.heap.size := ⟨_, rfl⟩
  have hgw : w0.heap.size ≤ gb := by rw [hgb]; exact b1.size
  rw [← hgb] at v1
  simp only [← hgb]
  obtain ⟨base, hbase⟩ : ∃ b, b = W.heap.size := ⟨_, rfl⟩
  have hgbb : gb < base := by rw [hbase]; exact v1.lt
  have hbw0 : w0.heap.size ≤ base := by omega
  have x1 : Bx W none 0 0 (seqI 0 0) none 0 0 [] := Bx.nil W
  have sb1 := Sub.nil W base
  have hbs1 : base ≤ W.heap.size := by omega
  clear hgb hW s1 b1 w1 hbase
  go_loopw [4, 5, 6, 7] (fun a b e i wr => ∃ (k P Cm m nl : Nat) (p1 : Option Addr) (c1 : Nat) (q1 : Option Addr) (d1 : Nat) (pw : Option Addr) (cw : Nat) (Wt : List Int), k ≤ n ∧ i = .int .i64 k ∧ a = .int .i64 P ∧ b = .int .i64 Cm ∧ e = .slice pw m cw ∧ Cm ≤ P ∧ P ≤ k ∧ Hid (nl = P - Cm) ∧ nl ≤ 4 ∧ Hid (Wt.length = m) ∧ m ≤ 4 ∧ (nl = 0 ∨ m = 0) ∧ BV wr gb p1 c1 nl q1 d1 m ∧ Bx wr p1 c1 nl (seqI Cm P) q1 d1 m Wt ∧ Sub wr base pw cw Wt ∧ base ≤ wr.heap.size ∧ Below w0.heap.size w0 wr) (fun _ _ _ i _ => n - (intOf i).toNat)
  case atStart => exact ⟨0, 0, 0, 0, 0, none, 0, none, 0, none, 0, [], by omega, rfl, rfl, rfl, rfl, by omega, by omega, rfl, by omega, rfl, by omega, .inl rfl, v1, x1, sb1, hbs1, B1⟩
  case round =>
    obtain ⟨k, P, Cm, m, nl, p1, c1', q1, d1', pw, cw, Wt, hk, rfl, rfl, rfl, rfl, hCP, hPk, HNL, hnl4, HW, hm4, hone, vb, xb, hs, hbt, hbw⟩ := hrel
    clear v1 x1 sb1 hbs1 B1
    have k0 := vb.c0
    have k1 := vb.c1
    have hP60 : (P : Int) ≤ 60 := by omega
    have hC60 : (Cm : Int) ≤ 60 := by omega
    by_cases hlt : k < n
    · have hkl : k < zs.length := by rw [HN.out]; exact hlt
      obtain ⟨b, o, rfl, hb, hc⟩ := (hr.below hbw).byte k hkl
      obtain ⟨hx0, hx1⟩ := hz zs[k] (List.getElem_mem hkl)
      generalize zs[k] = X at *
      have hkI : (k : Int) < (n : Int) := by omega
      by_cases hev : X % 2 = 0
      · cases Wt with
        | cons x R =>
          obtain ⟨r, hrr⟩ : ∃ r, R.length = r := ⟨_, rfl⟩
          have HR : Hid (R.length = r) := hrr
          obtain rfl : m = r + 1 := by have := HW.out; simp at this; omega
          obtain rfl : nl = 0 := by omega
          obtain rfl : Cm = P := by have := HNL.out; omega
          rw [seqI_same] at xb
          obtain ⟨b9, o9, rfl, hs3⟩ := hs.drop
          obtain ⟨b8, o8, e8, hb9, hc9⟩ := hs.rd.num 0 (by simp)
          cases e8
          rw [List.getElem_cons_zero, Nat.add_zero] at hc9
          have hg9 : base ≤ b9 := hs.ge
          have hne9 : ¬ b9 = gb := by omega
          have hne8 : ¬ gb = b9 := by omega
          have hcap := hs.rd.cap
          simp only [List.length_cons, hrr] at hcap
          have HSS : Hid (seqI (Cm + 1) (Cm + 1) = []) := seqI_same _
          clear hrr
          have dr1 : (1 : Int) ≤ (r : Int) + 1 := by omega
          have dr2 : r + 1 ≤ cw := hcap
          have dr3 : ((r : Int) + 1 == 0) = false := by simp; omega
          have dr4 : (0 : Int) < (r : Int) + 1 := by omega
          have hr4 : r ≤ 3 := by omega
          by_cases hd : cw = 1
          · rw [if_pos hd] at hs3
            subst hd
            obtain rfl : r = 0 := by omega
            go_wp2_with (first
              | (go_at_call 8; (with_reducible (refine (post_c xb ((Cm : Int) + 1) x ?h1 true ?h2 [] R ?h3 ?h4 0 0 ?h5 HR.out (by decide) (by omega)).mono ?_)); (case h1 => rfl); (case h2 => rfl); (case h3 => rfl); (case h4 => rfl); (case h5 => rfl); (rintro e w6 ⟨p6, c6, q6, d6, rfl, x6, b6⟩; have v6 := vb.below b6; have lt6 := BV.lt v6; have e0 := v6.c0; have e1 := v6.c1; have f0 := v6.fz 0; have f1 := v6.fz 1; have s6 := hs.below b6; have hc9 := (b6.cell (p := ⟨b9, o9, none⟩) hb9).trans hc9; have hb9 := Nat.lt_of_lt_of_le hb9 b6.size; have s6 := hs3.below b6)))
            have fb := Far.subLow s6 hgbb
            have v7 := v6.put p6 c6 (0) q6 d6 (0)
            have x7 := x6.stored v6 (.slice p6 (0) c6) (.slice q6 (0) d6)
            have s7 := (s6.setFar fb 0 (.slice p6 (0) c6)).setFar fb 1 (.slice q6 (0) d6)
            have b7 : Below w0.heap.size w0 ((w6.setCell ⟨gb, 0, none⟩ (.slice p6 (0) c6)).setCell ⟨gb, 1, none⟩ (.slice q6 (0) d6)) := by
              refine Below.setCell (Below.setCell (bel_call hbw (Nat.le_refl _) b6) ?_ _) ?_ _ <;> exact hgw
            have a7 := bel_self ((w6.setCell ⟨gb, 0, none⟩ (.slice p6 (0) c6)).setCell ⟨gb, 1, none⟩ (.slice q6 (0) d6)) (.cells #[.slice p6 (0) c6, .slice q6 (0) d6] 25)
            have t7 : base ≤ (((w6.setCell ⟨gb, 0, none⟩ (.slice p6 (0) c6)).setCell ⟨gb, 1, none⟩ (.slice q6 (0) d6)).alloc (.cells #[.slice p6 (0) c6, .slice q6 (0) d6] 25)).heap.size := by
              simp [World.setCell]
              have := b6.size
              omega
            rw [← HSS.out] at x7
            go_roundw
            case rel => exact ⟨k + 1, Cm + 1, Cm + 1, 0, 0, p6, c6, q6, d6, _, _, R, by omega, by go_num, by go_num, by go_num, rfl, by omega, by omega, (by show 0 = _; omega), by omega, HR, by omega, .inl rfl, v7.below a7, x7.below a7, s7.below a7, t7, bel_call b7 (Nat.le_refl _) a7⟩
            case measure => simp [intOf]; omega
          · rw [if_neg hd] at hs3
            go_wp2_with (first
              | (go_at_call 8; (with_reducible (refine (post_c xb ((Cm : Int) + 1) x ?h1 true ?h2 [] R ?h3 ?h4 0 r ?h5 HR.out (by decide) (by omega)).mono ?_)); (case h1 => rfl); (case h2 => rfl); (case h3 => rfl); (case h4 => rfl); (case h5 => rfl); (rintro e w6 ⟨p6, c6, q6, d6, rfl, x6, b6⟩; have v6 := vb.below b6; have lt6 := BV.lt v6; have e0 := v6.c0; have e1 := v6.c1; have f0 := v6.fz 0; have f1 := v6.fz 1; have s6 := hs.below b6; have hc9 := (b6.cell (p := ⟨b9, o9, none⟩) hb9).trans hc9; have hb9 := Nat.lt_of_lt_of_le hb9 b6.size; have s6 := hs3.below b6)))
            have fb := Far.subLow s6 hgbb
            have v7 := v6.put p6 c6 (0) q6 d6 (r)
            have x7 := x6.stored v6 (.slice p6 (0) c6) (.slice q6 (r) d6)
            have s7 := (s6.setFar fb 0 (.slice p6 (0) c6)).setFar fb 1 (.slice q6 (r) d6)
            have b7 : Below w0.heap.size w0 ((w6.setCell ⟨gb, 0, none⟩ (.slice p6 (0) c6)).setCell ⟨gb, 1, none⟩ (.slice q6 (r) d6)) := by
              refine Below.setCell (Below.setCell (bel_call hbw (Nat.le_refl _) b6) ?_ _) ?_ _ <;> exact hgw
            have a7 := bel_self ((w6.setCell ⟨gb, 0, none⟩ (.slice p6 (0) c6)).setCell ⟨gb, 1, none⟩ (.slice q6 (r) d6)) (.cells #[.slice p6 (0) c6, .slice q6 (r) d6] 25)
            have t7 : base ≤ (((w6.setCell ⟨gb, 0, none⟩ (.slice p6 (0) c6)).setCell ⟨gb, 1, none⟩ (.slice q6 (r) d6)).alloc (.cells #[.slice p6 (0) c6, .slice q6 (r) d6] 25)).heap.size := by
              simp [World.setCell]
              have := b6.size
              omega
            rw [← HSS.out] at x7
            go_roundw
            case rel => exact ⟨k + 1, Cm + 1, Cm + 1, r, 0, p6, c6, q6, d6, _, _, R, by omega, by go_num, by go_num, by go_num, rfl, by omega, by omega, (by show 0 = _; omega), by omega, HR, by omega, .inl rfl, v7.below a7, x7.below a7, s7.below a7, t7, bel_call b7 (Nat.le_refl _) a7⟩
            case measure => simp [intOf]; omega
        | nil =>
          obtain rfl : m = 0 := HW.out.symm
          by_cases h4 : nl < 4
          · have hPC : (P : Int) - (Cm : Int) < 4 := by have := HNL.out; omega
            have dPC : decide ((4 : Int) ≤ (P : Int) - (Cm : Int)) = false := by simp; omega
            have HB : Hid (postB (seqI Cm P) [] = true) := by show _ = _; simp [postB, xb.ln, h4]
            have HL : Hid (postL (seqI Cm P) [] ((P : Int) + 1) = seqI Cm (P + 1)) := by show _ = _; rw [seqI_snoc hCP]; simp [postL, xb.ln, h4]
            have HM : Hid ((seqI Cm (P + 1)).length = nl + 1) := by show _ = _; rw [seqI_len]; have := HNL.out; omega
            go_wp2_with (first
              | (go_at_call 8; (with_reducible (refine (post_c xb ((P : Int) + 1) 0 ?h1 true HB.out (seqI Cm (P + 1)) [] HL.out ?h2 (nl + 1) 0 HM.out ?h3 (by omega) (by decide)).mono ?_)); (case h1 => rfl); (case h2 => rfl); (case h3 => rfl); (rintro e w6 ⟨p6, c6, q6, d6, rfl, x6, b6⟩; have v6 := vb.below b6; have lt6 := BV.lt v6; have e0 := v6.c0; have e1 := v6.c1; have f0 := v6.fz 0; have f1 := v6.fz 1; have s6 := hs.below b6)))
            have fb := Far.subLow s6 hgbb
            have v7 := v6.put p6 c6 (nl + 1) q6 d6 (0)
            have x7 := x6.stored v6 (.slice p6 (nl + 1) c6) (.slice q6 (0) d6)
            have s7 := (s6.setFar fb 0 (.slice p6 (nl + 1) c6)).setFar fb 1 (.slice q6 (0) d6)
            have b7 : Below w0.heap.size w0 ((w6.setCell ⟨gb, 0, none⟩ (.slice p6 (nl + 1) c6)).setCell ⟨gb, 1, none⟩ (.slice q6 (0) d6)) := by
              refine Below.setCell (Below.setCell (bel_call hbw (Nat.le_refl _) b6) ?_ _) ?_ _ <;> exact hgw
            have a7 := bel_self ((w6.setCell ⟨gb, 0, none⟩ (.slice p6 (nl + 1) c6)).setCell ⟨gb, 1, none⟩ (.slice q6 (0) d6)) (.cells #[.slice p6 (nl + 1) c6, .slice q6 (0) d6] 25)
            have t7 : base ≤ (((w6.setCell ⟨gb, 0, none⟩ (.slice p6 (nl + 1) c6)).setCell ⟨gb, 1, none⟩ (.slice q6 (0) d6)).alloc (.cells #[.slice p6 (nl + 1) c6, .slice q6 (0) d6] 25)).heap.size := by
              simp [World.setCell]
              have := b6.size
              omega
            go_roundw
            case rel => exact ⟨k + 1, P + 1, Cm, 0, nl + 1, p6, c6, q6, d6, pw, cw, [], by omega, by go_num, by go_num, rfl, rfl, by omega, by omega, (by show nl + 1 = _; have := HNL.out; omega), by omega, HW, by omega, .inr rfl, v7.below a7, x7.below a7, s7.below a7, t7, bel_call b7 (Nat.le_refl _) a7⟩
            case measure => simp [intOf]; omega
          · have hPC : ¬ (P : Int) - (Cm : Int) < 4 := by have := HNL.out; omega
            have dPC : decide ((4 : Int) ≤ (P : Int) - (Cm : Int)) = true := by simp; omega
            have HB : Hid (postB (seqI Cm P) [] = false) := by show _ = _; simp [postB, xb.ln, h4]
            have HL : Hid (postL (seqI Cm P) [] ((P : Int) + 1) = seqI Cm P) := by show _ = _; simp [postL, xb.ln, h4]
            have HLL : Hid ((seqI Cm P).length = nl) := xb.ln
            go_wp2_with (first
              | (go_at_call 8; (with_reducible (refine (post_c xb ((P : Int) + 1) 0 ?h1 false HB.out (seqI Cm P) [] HL.out ?h2 nl 0 HLL.out ?h3 (by omega) (by decide)).mono ?_)); (case h1 => rfl); (case h2 => rfl); (case h3 => rfl); (rintro e w6 ⟨p6, c6, q6, d6, rfl, x6, b6⟩)))
            have s6 := bel_self w6 (.cells #[.slice p6 nl c6, .slice q6 0 d6] 25)
            go_roundw
            case rel => exact ⟨k + 1, P, Cm, 0, nl, p1, c1', q1, d1', pw, cw, [], by omega, by go_num, rfl, rfl, rfl, by omega, by omega, HNL, by omega, HW, by omega, .inr rfl, (vb.below b6).below s6, (xb.below b6).below s6, (hs.below b6).below s6, Nat.le_trans hbt (Nat.le_trans b6.size s6.size), bel_call (bel_call hbw (Nat.le_refl _) b6) (Nat.le_refl _) s6⟩
            case measure => simp [intOf]; omega
      · have hev2 : X % 2 = 1 := by omega
        obtain ⟨C, hC⟩ : ∃ C, 1 + X / 2 % 6 = C := ⟨_, rfl⟩
        have hC1 : 1 ≤ C := by omega
        have hC7 : C ≤ 6 := by omega
        by_cases hpos : Cm < P
        · have hne : 0 < nl := by have := HNL.out; omega
          obtain rfl : m = 0 := by omega
          obtain rfl : Wt = [] := List.eq_nil_of_length_eq_zero HW.out
          have hPC : (Cm : Int) < (P : Int) := by omega
          have dPC : decide ((Cm : Int) < (P : Int)) = true := by simpa using hPC
          have hdC : decide (0 < C) = true := decide_eq_true (by omega)
          rw [seqI_head hpos] at xb
          have HV : Hid (takeV (((Cm : Int) + 1) :: seqI (Cm + 1) P) C = (Cm : Int) + 1) := by show _ = _; simp [takeV, takeGot, hdC]
          have HG : Hid (takeGot (((Cm : Int) + 1) :: seqI (Cm + 1) P) C = true) := by show _ = _; simp [takeGot, hdC]
          have HO : Hid (takeOk (((Cm : Int) + 1) :: seqI (Cm + 1) P) [] C = true) := by show _ = _; simp [takeOk, hdC]
          have HL : Hid (takeL (((Cm : Int) + 1) :: seqI (Cm + 1) P) C = seqI (Cm + 1) P) := by show _ = _; simp [takeL, hdC]
          have HQ : Hid (takeQ (((Cm : Int) + 1) :: seqI (Cm + 1) P) [] C = []) := by show _ = _; simp [takeQ]
          have HM : Hid ((seqI (Cm + 1) P).length = nl - 1) := by show _ = _; rw [seqI_len]; have := HNL.out; omega
          clear hdC
          go_wp2_with (first
            | (go_at_call 11; (with_reducible (refine (take_c xb C ((Cm : Int) + 1) HV.out true HG.out true HO.out (seqI (Cm + 1) P) [] HL.out HQ.out (nl - 1) 0 HM.out ?h1 (by omega) (by decide)).mono ?_)); (case h1 => rfl); (rintro e w6 ⟨p6, c6, q6, d6, rfl, x6, b6⟩; have v6 := vb.below b6; have lt6 := BV.lt v6; have e0 := v6.c0; have e1 := v6.c1; have f0 := v6.fz 0; have f1 := v6.fz 1; have s6 := hs.below b6)))
          have fb := Far.subLow s6 hgbb
          have v7 := v6.put p6 c6 (nl - 1) q6 d6 (0)
          have x7 := x6.stored v6 (.slice p6 (nl - 1) c6) (.slice q6 (0) d6)
          have s7 := (s6.setFar fb 0 (.slice p6 (nl - 1) c6)).setFar fb 1 (.slice q6 (0) d6)
          have b7 : Below w0.heap.size w0 ((w6.setCell ⟨gb, 0, none⟩ (.slice p6 (nl - 1) c6)).setCell ⟨gb, 1, none⟩ (.slice q6 (0) d6)) := by
            refine Below.setCell (Below.setCell (bel_call hbw (Nat.le_refl _) b6) ?_ _) ?_ _ <;> exact hgw
          have a7 := bel_self ((w6.setCell ⟨gb, 0, none⟩ (.slice p6 (nl - 1) c6)).setCell ⟨gb, 1, none⟩ (.slice q6 (0) d6)) (.cells #[.slice p6 (nl - 1) c6, .slice q6 (0) d6] 25)
          have t7 : base ≤ (((w6.setCell ⟨gb, 0, none⟩ (.slice p6 (nl - 1) c6)).setCell ⟨gb, 1, none⟩ (.slice q6 (0) d6)).alloc (.cells #[.slice p6 (nl - 1) c6, .slice q6 (0) d6] 25)).heap.size := by
            simp [World.setCell]
            have := b6.size
            omega
          go_roundw
          case rel => exact ⟨k + 1, P, Cm + 1, 0, nl - 1, p6, c6, q6, d6, pw, cw, [], by omega, by go_num, rfl, by go_num, rfl, by omega, by omega, (by show nl - 1 = _; have := HNL.out; omega), by omega, HW, by omega, .inr rfl, v7.below a7, x7.below a7, s7.below a7, t7, bel_call b7 (Nat.le_refl _) a7⟩
          case measure => simp [intOf]; omega
        · obtain rfl : Cm = P := by omega
          obtain rfl : nl = 0 := by have := HNL.out; omega
          have hPC : ¬ (Cm : Int) < (Cm : Int) := by omega
          have dPC : decide ((Cm : Int) < (Cm : Int)) = false := by simp
          rw [seqI_same] at xb
          have HS0 : Hid ([] = seqI Cm Cm) := (seqI_same _).symm
          have HCC : Hid (1 + X / 2 % 6 = C) := hC
          obtain ⟨A0, hA0⟩ : ∃ A, Wt.any (· == C) = A := ⟨_, rfl⟩
          have HA0 : Hid (Wt.any (· == C) = A0) := hA0
          clear hA0
          by_cases hno : A0 = true ∨ 4 ≤ m
          · obtain ⟨hO, hQ⟩ := ask_no (Q := Wt) (C := C) (hno.imp (fun h => HA0.out.trans h) (fun h => by rw [HW.out]; exact h))
            have HO : Hid (takeOk [] Wt C = false) := hO
            have HQ : Hid (takeQ [] Wt C = Wt) := hQ
            clear hO hQ
            have hcase : (A0 = true) ∨ (A0 = false ∧ 4 ≤ m) := by
              cases A0
              · exact .inr ⟨rfl, by simpa using hno⟩
              · exact .inl rfl
            clear hno
            rcases hcase with rfl | ⟨rfl, h4⟩
            · go_wp2_with (first
                | (go_at_call 11; (with_reducible (refine (take_c xb C 0 ?h1 false ?h2 false HO.out [] (Wt) ?h3 HQ.out 0 (m) ?h4 HW.out (by decide) (by omega)).mono ?_)); (case h1 => simp [takeV, takeGot]); (case h2 => simp [takeGot]); (case h3 => simp [takeL]); (case h4 => rfl); (rintro e w6 ⟨p6, c6, q6, d6, rfl, x6, b6⟩)))
              have s6 := bel_self w6 (.cells #[.slice p6 0 c6, .slice q6 (m) d6] 25)
              have vb := (vb.below b6).below s6
              have xb := (xb.below b6).below s6
              have hs := (hs.below b6).below s6
              have hbt := Nat.le_trans hbt (Nat.le_trans b6.size s6.size)
              have hbw := bel_call (bel_call hbw (Nat.le_refl _) b6) (Nat.le_refl _) s6
              generalize w6.alloc (.cells #[.slice p6 0 c6, .slice q6 (m) d6] 25) = wt at *
              clear s6 b6 x6 k0 k1
              clear HCC
              go_loop [17, 18] (fun a i => ∃ (j : Nat) (A : Bool), j ≤ m ∧ i = .int .i64 j ∧ a = .bool A ∧ Hid ((Wt.take j).any (· == C) = A)) (fun _ i => m - (intOf i).toNat)
              case atStart => exact ⟨0, false, by omega, rfl, rfl, rfl⟩
              case round =>
                obtain ⟨j, A, hj, rfl, rfl, HA⟩ := hrel
                by_cases hltj : j < m
                · have hjl : j < Wt.length := by rw [HW.out]; exact hltj
                  have HT := any_take hjl C
                  obtain ⟨b9, o9, rfl, hb9, hc9⟩ := hs.rd.num j hjl
                  have hjI : (j : Int) < (m : Int) := by omega
                  cases A with
                  | true =>
                    have HT2 : Hid ((Wt.take (j + 1)).any (· == C) = true) := by show _ = _; rw [HT, HA.out]; rfl
                    clear HT
                    go_wp2
                    go_round
                    case rel => exact ⟨j + 1, true, by omega, by go_num, rfl, HT2⟩
                    case measure => simp [intOf]; omega
                  | false =>
                    obtain ⟨y, hy⟩ : ∃ y, Wt[j] = y := ⟨_, rfl⟩
                    rw [hy] at hc9 HT
                    cases hyC : (y == C) with
                    | true =>
                      have HT2 : Hid ((Wt.take (j + 1)).any (· == C) = true) := by show _ = _; rw [HT, hyC]; simp
                      clear HT hy
                      go_wp2
                      go_round
                      case rel => exact ⟨j + 1, true, by omega, by go_num, rfl, HT2⟩
                      case measure => simp [intOf]; omega
                    | false =>
                      have HT2 : Hid ((Wt.take (j + 1)).any (· == C) = false) := by show _ = _; rw [HT, hyC, HA.out]; rfl
                      clear HT hy
                      go_wp2
                      go_round
                      case rel => exact ⟨j + 1, false, by omega, by go_num, rfl, HT2⟩
                      case measure => simp [intOf]; omega
                · have hjm : j = m := by omega
                  have HA2 : Hid (Wt.any (· == C) = A) := by
                    have := HA.out
                    rw [List.take_of_length_le (by rw [HW.out]; omega)] at this
                    exact this
                  have HAA : A = true := HA2.out.symm.trans HA0.out
                  subst HAA
                  have djm : decide ((j : Int) < (m : Int)) = false := by simp; omega
                  clear HA hjm
                  go_wp2_with fail
                  go_roundw
                  case rel => exact ⟨k + 1, Cm, Cm, m, 0, p1, c1', q1, d1', pw, cw, Wt, by omega, by go_num, rfl, rfl, rfl, by omega, by omega, (by show 0 = Cm - Cm; omega), by omega, HW, by omega, .inl rfl, vb, HS0.out ▸ xb, hs, hbt, hbw⟩
                  case measure => simp [intOf]; omega
            · have d4 : decide ((m : Int) < 4) = false := by simp; omega
              go_wp2_with (first
                | (go_at_call 11; (with_reducible (refine (take_c xb C 0 ?h1 false ?h2 false HO.out [] (Wt) ?h3 HQ.out 0 (m) ?h4 HW.out (by decide) (by omega)).mono ?_)); (case h1 => simp [takeV, takeGot]); (case h2 => simp [takeGot]); (case h3 => simp [takeL]); (case h4 => rfl); (rintro e w6 ⟨p6, c6, q6, d6, rfl, x6, b6⟩)))
              have s6 := bel_self w6 (.cells #[.slice p6 0 c6, .slice q6 (m) d6] 25)
              have vb := (vb.below b6).below s6
              have xb := (xb.below b6).below s6
              have hs := (hs.below b6).below s6
              have hbt := Nat.le_trans hbt (Nat.le_trans b6.size s6.size)
              have hbw := bel_call (bel_call hbw (Nat.le_refl _) b6) (Nat.le_refl _) s6
              generalize w6.alloc (.cells #[.slice p6 0 c6, .slice q6 (m) d6] 25) = wt at *
              clear s6 b6 x6 k0 k1
              clear HCC
              go_loop [17, 18] (fun a i => ∃ (j : Nat) (A : Bool), j ≤ m ∧ i = .int .i64 j ∧ a = .bool A ∧ Hid ((Wt.take j).any (· == C) = A)) (fun _ i => m - (intOf i).toNat)
              case atStart => exact ⟨0, false, by omega, rfl, rfl, rfl⟩
              case round =>
                obtain ⟨j, A, hj, rfl, rfl, HA⟩ := hrel
                by_cases hltj : j < m
                · have hjl : j < Wt.length := by rw [HW.out]; exact hltj
                  have HT := any_take hjl C
                  obtain ⟨b9, o9, rfl, hb9, hc9⟩ := hs.rd.num j hjl
                  have hjI : (j : Int) < (m : Int) := by omega
                  cases A with
                  | true =>
                    have HT2 : Hid ((Wt.take (j + 1)).any (· == C) = true) := by show _ = _; rw [HT, HA.out]; rfl
                    clear HT
                    go_wp2
                    go_round
                    case rel => exact ⟨j + 1, true, by omega, by go_num, rfl, HT2⟩
                    case measure => simp [intOf]; omega
                  | false =>
                    obtain ⟨y, hy⟩ : ∃ y, Wt[j] = y := ⟨_, rfl⟩
                    rw [hy] at hc9 HT
                    cases hyC : (y == C) with
                    | true =>
                      have HT2 : Hid ((Wt.take (j + 1)).any (· == C) = true) := by show _ = _; rw [HT, hyC]; simp
                      clear HT hy
                      go_wp2
                      go_round
                      case rel => exact ⟨j + 1, true, by omega, by go_num, rfl, HT2⟩
                      case measure => simp [intOf]; omega
                    | false =>
                      have HT2 : Hid ((Wt.take (j + 1)).any (· == C) = false) := by show _ = _; rw [HT, hyC, HA.out]; rfl
                      clear HT hy
                      go_wp2
                      go_round
                      case rel => exact ⟨j + 1, false, by omega, by go_num, rfl, HT2⟩
                      case measure => simp [intOf]; omega
                · have hjm : j = m := by omega
                  have HA2 : Hid (Wt.any (· == C) = A) := by
                    have := HA.out
                    rw [List.take_of_length_le (by rw [HW.out]; omega)] at this
                    exact this
                  have HAA : A = false := HA2.out.symm.trans HA0.out
                  subst HAA
                  have djm : decide ((j : Int) < (m : Int)) = false := by simp; omega
                  clear HA hjm
                  go_wp2_with fail
                  go_roundw
                  case rel => exact ⟨k + 1, Cm, Cm, m, 0, p1, c1', q1, d1', pw, cw, Wt, by omega, by go_num, rfl, rfl, rfl, by omega, by omega, (by show 0 = Cm - Cm; omega), by omega, HW, by omega, .inl rfl, vb, HS0.out ▸ xb, hs, hbt, hbw⟩
                  case measure => simp [intOf]; omega
          · have hA : A0 = false := by
              cases A0
              · rfl
              · exact absurd (Or.inl rfl) hno
            subst hA
            have h4 : m < 4 := by
              have : ¬ 4 ≤ m := fun h => hno (Or.inr h)
              omega
            obtain ⟨hO, hQ⟩ := ask_yes (Q := Wt) (C := C) (by omega) HA0.out (by rw [HW.out]; exact h4)
            have HO : Hid (takeOk [] Wt C = true) := hO
            have HQ : Hid (takeQ [] Wt C = Wt ++ [C]) := hQ
            have HM : Hid ((Wt ++ [C]).length = m + 1) := by show _ = _; simp [HW.out]
            clear hO hQ hno
            have d4 : decide ((m : Int) < 4) = true := by simp; omega
            go_wp2_with (first
              | (go_at_call 11; (with_reducible (refine (take_n xb C 0 ?h1 false ?h2 true HO.out [] (Wt ++ [C]) ?h3 HQ.out 0 (m + 1) ?h4 HM.out (by decide) (by omega)).mono ?_)); (case h1 => simp [takeV, takeGot]); (case h2 => simp [takeGot]); (case h3 => simp [takeL]); (case h4 => rfl); (rintro e w6 ⟨p6, c6, q6, d6, rfl, x6, na6, nb6, b6⟩)))
            have s6 := bel_self w6 (.cells #[.slice p6 0 c6, .slice q6 (m + 1) d6] 25)
            have hx := BV.new w6 p6 c6 0 q6 d6 (m + 1)
            have ap6 := Ap.new hs na6 []
            have aq6 := Ap.new hs nb6 (Wt ++ [C])
            have hs6 := hs.below b6
            have fx : Far pw w6.heap.size := Far.subHigh hs6 (Nat.le_refl _)
            have fb : Far pw gb := Far.subLow hs6 hgbb
            have hs := hs6.below s6
            have vg := (vb.below b6).below s6
            have x6 := x6.below s6
            have bt := bel_call (bel_call hbw (Nat.le_refl _) b6) (Nat.le_refl _) s6
            have hbt := Nat.le_trans hbt (Nat.le_trans b6.size s6.size)
            have hxb : w6.heap.size ≠ gb := by have := (vb.below b6).lt; omega
            obtain ⟨gx, hgx⟩ : ∃ g, g = w6.heap.size := ⟨_, rfl⟩
            rw [← hgx] at hx fx hxb
            simp only [← hgx]
            generalize w6.alloc (.cells #[.slice p6 0 c6, .slice q6 (m + 1) d6] 25) = wt at *
            have hxb' := Ne.symm hxb
            clear s6 b6 na6 nb6 hs6 hgx k0 k1 vb xb
            clear HCC
            go_loop [17, 18] (fun a i => ∃ (j : Nat) (A : Bool), j ≤ m ∧ i = .int .i64 j ∧ a = .bool A ∧ Hid ((Wt.take j).any (· == C) = A)) (fun _ i => m - (intOf i).toNat)
            case atStart => exact ⟨0, false, by omega, rfl, rfl, rfl⟩
            case round =>
              obtain ⟨j, A, hj, rfl, rfl, HA⟩ := hrel
              by_cases hltj : j < m
              · have hjl : j < Wt.length := by rw [HW.out]; exact hltj
                have HT := any_take hjl C
                obtain ⟨b9, o9, rfl, hb9, hc9⟩ := hs.rd.num j hjl
                have hjI : (j : Int) < (m : Int) := by omega
                cases A with
                | true =>
                  have HT2 : Hid ((Wt.take (j + 1)).any (· == C) = true) := by show _ = _; rw [HT, HA.out]; rfl
                  clear HT
                  go_wp2
                  go_round
                  case rel => exact ⟨j + 1, true, by omega, by go_num, rfl, HT2⟩
                  case measure => simp [intOf]; omega
                | false =>
                  obtain ⟨y, hy⟩ : ∃ y, Wt[j] = y := ⟨_, rfl⟩
                  rw [hy] at hc9 HT
                  cases hyC : (y == C) with
                  | true =>
                    have HT2 : Hid ((Wt.take (j + 1)).any (· == C) = true) := by show _ = _; rw [HT, hyC]; simp
                    clear HT hy
                    go_wp2
                    go_round
                    case rel => exact ⟨j + 1, true, by omega, by go_num, rfl, HT2⟩
                    case measure => simp [intOf]; omega
                  | false =>
                    have HT2 : Hid ((Wt.take (j + 1)).any (· == C) = false) := by show _ = _; rw [HT, hyC, HA.out]; rfl
                    clear HT hy
                    go_wp2
                    go_round
                    case rel => exact ⟨j + 1, false, by omega, by go_num, rfl, HT2⟩
                    case measure => simp [intOf]; omega
              · have hjm : j = m := by omega
                have HA2 : Hid (Wt.any (· == C) = A) := by
                  have := HA.out
                  rw [List.take_of_length_le (by rw [HW.out]; omega)] at this
                  exact this
                have HAA : A = false := HA2.out.symm.trans HA0.out
                subst HAA
                have djm : decide ((j : Int) < (m : Int)) = false := by simp; omega
                clear HA hjm
                go_wp2
                refine wp_region_held_drew (S := fun w' => w'.heap[gx]? = wt.heap[gx]?) (by kernel_rfl) rfl (fun hHeld => ?_)
                refine wpAnyH_take (i := 0) (oi := _) (v := ?_) rfl (by kernel_rfl) (by kernel_rfl) (by kernel_rfl) (fun _ _ _ h => h) (Or.inl ⟨by rfl, ?_⟩) hHeld ?_
                rotate_left
                · intro w' hSw
                  (go_simp <;> with_reducible rfl)
                try simp only [Act.put, List.getElem_toArray, List.getElem_cons_zero, List.setIfInBounds_toArray, List.set_cons_zero, List.set_cons_succ]
                refine wpAnyH_take (i := 1) (oi := _) (v := ?_) rfl (by kernel_rfl) (by kernel_rfl) (by kernel_rfl) (fun _ _ _ h => h) (Or.inl ⟨by rfl, ?_⟩) hHeld ?_
                rotate_left
                · intro w' hSw
                  (go_simp <;> with_reducible rfl)
                try simp only [Act.put, List.getElem_toArray, List.getElem_cons_succ, List.getElem_cons_zero, List.setIfInBounds_toArray, List.set_cons_zero, List.set_cons_succ]
                refine wpAnyH_take (i := 4) (oi := _) (v := ?_) rfl (by kernel_rfl) (by kernel_rfl) (by kernel_rfl) (fun _ _ _ h => h) (Or.inl ⟨by rfl, ?_⟩) hHeld ?_
                rotate_left
                · intro w' hSw
                  have hx' : BV w' gx p6 c6 0 q6 d6 (m + 1) := hSw.trans hx
                  have s0 := hx'.c0
                  have s1 := hx'.c1
                  (go_simp <;> with_reducible rfl)
                try simp only [Act.put, List.getElem_toArray, List.getElem_cons_succ, List.getElem_cons_zero, List.setIfInBounds_toArray, List.set_cons_zero, List.set_cons_succ]
                refine wpAnyH_ready (rs := [2]) (by kernel_rfl) (by simp) ?_
                refine AllReadyH.cons (o := _) rfl (fun K hK => ?_) (AllReadyH.nil)
                go_simp
                have b7 : Below wt.heap.size wt (wt.alloc (.cells #[.int .i64 C] 3)) := bel_self _ _
                have hc7 : (wt.alloc (.cells #[.int .i64 C] 3)).cell? ⟨wt.heap.size, 0, none⟩ = some (.int .i64 C) := (Lv.new wt #[.int .i64 C] 3).c 0 rfl
                have b7d : Below wt.heap.size wt (wt.alloc (.cells #[.int .i64 C] 3)).drew := b7.drew
                have hc7d : (wt.alloc (.cells #[.int .i64 C] 3)).drew.cell? ⟨wt.heap.size, 0, none⟩ = some (.int .i64 C) := hc7
                refine hK.out _ _ (b7d.block gx (BV.lt hx)) (fun hHeld => ?_)
                clear hK K
                generalize (wt.alloc (.cells #[.int .i64 C] 3)).drew = w7 at *
                clear b7 hc7
                have hs := hs.below b7d
                have vg := vg.below b7d
                have hx := hx.below b7d
                have x6 := x6.below b7d
                have bt := bel_call bt (Nat.le_refl _) b7d
                try simp only [Act.put, List.getElem_toArray, List.getElem_cons_succ, List.getElem_cons_zero, List.setIfInBounds_toArray, List.set_cons_zero, List.set_cons_succ]
                refine wpAnyH_ready (rs := [3]) (by kernel_rfl) (by simp) ?_
                refine AllReadyH.cons (o := _) rfl (fun K hK => ?_) (AllReadyH.nil)
                refine step_one _ rfl _ _ rfl base pw cw Wt hs m HW.out (by omega) (Nat.le_trans hbt b7d.size) wt.heap.size 0 C hc7d rfl rfl ?_
                intro pn cn w8 sn zn os8 tp8 ou8 hb8 hp8
                have gx8 := hb8 gx (BV.lt hx) (fun o e => fx gx o e rfl)
                have gb8 := hb8 gb (BV.lt vg) (fun o e => fb gb o e rfl)
                have hx8 : BV w8 gx _ _ _ _ _ _ := gx8.trans hx
                have vg8 : BV w8 gb _ _ _ _ _ _ := gb8.trans vg
                have x8 : Bx w8 _ _ _ _ _ _ _ _ := x6.blocks (fun b o e hne hl => hb8 b hl (fun o2 e2 => ap6 b o2 e2 b o e hne rfl)) (fun b o e hne hl => hb8 b hl (fun o2 e2 => aq6 b o2 e2 b o e hne rfl))
                have bt8 : Below w0.heap.size w0 w8 := bt.trans ⟨os8, tp8, ou8, zn, fun k hk => hb8 k (Nat.lt_of_lt_of_le hk bt.size) (fun o e => absurd (hs.ge' e) (by omega))⟩
                have apn := Ap.next hp8 ap6 x6.rl
                have aqn := Ap.next hp8 aq6 x6.rq
                have fbn : Far pn gb := Far.next hp8 fb (BV.lt vg)
                refine hK.out _ _ (gx8.trans hHeld) (fun hHeld => ?_)
                clear hK K
                try simp only [Act.put, List.getElem_toArray, List.getElem_cons_succ, List.getElem_cons_zero, List.setIfInBounds_toArray, List.set_cons_zero, List.set_cons_succ]
                refine wpAnyH_take (i := 5) (oi := _) (v := ?_) rfl (by kernel_rfl) (by kernel_rfl) (by kernel_rfl) (fun _ _ _ h => h) (Or.inl ⟨by rfl, ?_⟩) hHeld ?_
                rotate_left
                · intro w' hSw
                  (go_simp <;> with_reducible rfl)
                try simp only [Act.put, List.getElem_toArray, List.getElem_cons_succ, List.getElem_cons_zero, List.setIfInBounds_toArray, List.set_cons_zero, List.set_cons_succ]
                refine wpAnyH_ready (rs := [6]) (by kernel_rfl) (by simp) ?_
                refine AllReadyH.cons (o := _) rfl (fun K hK => ?_) (AllReadyH.nil)
                have z0 := vg8.c0
                have z1 := vg8.c1
                have y0 := vg8.fz 0
                have y1 := vg8.fz 1
                go_simp
                have v9 : BV ((w8.setCell ⟨gb, 0, none⟩ (.slice p6 0 c6)).setCell ⟨gb, 1, none⟩ (.slice q6 (m + 1) d6)) gb p6 c6 0 q6 d6 (m + 1) := vg8.put _ _ _ _ _ _
                have x9 := x8.stored vg8 (.slice p6 0 c6) (.slice q6 (m + 1) d6)
                have s9 := (sn.setFar fbn 0 (.slice p6 0 c6)).setFar fbn 1 (.slice q6 (m + 1) d6)
                have b9 : Below w0.heap.size w0 ((w8.setCell ⟨gb, 0, none⟩ (.slice p6 0 c6)).setCell ⟨gb, 1, none⟩ (.slice q6 (m + 1) d6)) := by refine Below.setCell (Below.setCell bt8 ?_ _) ?_ _ <;> exact hgw
                have t9 : base ≤ ((w8.setCell ⟨gb, 0, none⟩ (.slice p6 0 c6)).setCell ⟨gb, 1, none⟩ (.slice q6 (m + 1) d6)).heap.size := by
                  simp [World.setCell]
                  exact Nat.le_trans (Nat.le_trans hbt b7d.size) zn
                have hS9 : ((w8.setCell ⟨gb, 0, none⟩ (.slice p6 0 c6)).setCell ⟨gb, 1, none⟩ (.slice q6 (m + 1) d6)).heap[gx]? = wt.heap[gx]? := by
                  rw [Below.heap_setCell _ _ _ _ hxb, Below.heap_setCell _ _ _ _ hxb]
                  exact hHeld
                refine hK.out _ _ hS9 (fun hHeld => ?_)
                clear hK K
                try simp only [Act.put, List.getElem_toArray, List.getElem_cons_succ, List.getElem_cons_zero, List.setIfInBounds_toArray, List.set_cons_zero, List.set_cons_succ]
                refine wpAnyH_done (by kernel_rfl) ?_ _
                go_wp2_with fail
                go_roundw
                case rel => exact ⟨k + 1, Cm, Cm, m + 1, 0, p6, c6, q6, d6, pn, cn, Wt ++ [C], by omega, by go_num, rfl, rfl, rfl, by omega, by omega, (by show 0 = Cm - Cm; omega), by omega, (by show _ = _; simp [HW.out]), by omega, .inl rfl, v9, HS0.out ▸ x9, s9, t9, b9⟩
                case measure => simp [intOf]; omega
    · have hkn : k = n := by omega
      have dk : decide ((k : Int) < (n : Int)) = false := by simp; omega
      have hPC : (nl : Int) = (P : Int) - (Cm : Int) := by have := HNL.out; omega
      have dnl : ((nl : Int) == (P : Int) - (Cm : Int)) = true := by simpa using hPC
      clear hkn
      go_wp2
      go_ret
      exact ⟨rfl, hbw⟩
end Go.Proofs.Ytfghondhonflaaa
