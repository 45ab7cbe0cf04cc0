/-
  The law MboxWaits, walked.
-/
import Derived.Test.YtfghondhonflaaaStay
import Derived.Test.YtfghondhonflaaaHand
namespace Go.Proofs.Ytfghondhonflaaa
open Go.ChangeShapes Go.WideShapes Go.ChangeAt Go.RowKit
attribute [local go_sem ↓] Go.wp_at_zero Go.wp_at_succ

theorem any_take {l : List Int} {j : Nat} (hj : j < l.length) (C : Int) : (l.take (j + 1)).any (· == C) = ((l.take j).any (· == C) || (l[j] == C)) := by
  rw [List.take_succ_eq_append_getElem hj, List.any_append]
  simp
/-- what a client that asks an empty box is told -/
theorem ask_no {Q : List Int} {C : Int} (h : Q.any (· == C) = true ∨ 4 ≤ Q.length) : takeOk [] Q C = false ∧ takeQ [] Q C = Q := by
  have : (!Q.any (· == C) && decide (Q.length < 4)) = false := by
    rcases h with h | h
    · simp [h]
    · simp; omega
  exact ⟨by simp [takeOk, this], by simp only [takeQ, this]; simp⟩
theorem ask_yes {Q : List Int} {C : Int} (hC : 0 < C) (h : Q.any (· == C) = false) (h4 : Q.length < 4) : takeOk [] Q C = true ∧ takeQ [] Q C = Q ++ [C] := by
  have : (!Q.any (· == C) && decide (Q.length < 4)) = true := by simp only [h, decide_eq_true h4]; rfl
  exact ⟨by simp [takeOk, this, hC], by simp only [takeQ, this, decide_eq_true hC]; simp⟩
set_option maxRecDepth 100000 in
set_option maxHeartbeats 8000000 in
theorem waits_walk (p : Option Addr) (c : Nat) (zs : List Int) (w : World) (hr : Rd eB w p c zs) (n : Nat) (hn : zs.length = n) (hz : ∀ y ∈ zs, 0 ≤ y ∧ y ≤ 255) (t : Int) (ht0 : 0 ≤ t) (ht1 : t ≤ 255) :
    Calls Try.prog 6 #[.slice p n c, .int .u8 t] w fun e w' => e = .returned (.bool true) ∧ Below w.heap.size w w' := by
  have HN : Hid (zs.length = n) := hn
  clear hn
  obtain ⟨w0, hw0⟩ : ∃ x, x = w := ⟨_, rfl⟩
  subst hw0
  by_cases c1 : 10 < n
  · have d1 : decide ((10 : Int) < (n : Int)) = true := by simp; omega
    go_enter Try.func6, Try.ntmps6
    go_wp2_with (go_at_call 7; refine (begun_any _).mono ?_; rintro e w1 ⟨rfl, b1⟩)
    go_ret
    exact ⟨rfl, b1⟩
  have d1 : decide ((10 : Int) < (n : Int)) = false := by simp; omega
  obtain ⟨ν, hν⟩ : ∃ ν : Nat, t % 9 = ν := ⟨(t % 9).toNat, by omega⟩
  have hν8 : ν ≤ 8 := by omega
  have HV9 : Hid (t % 9 = ν) := hν
  clear hν
  go_enter Try.func6, Try.ntmps6
  go_wp2_with (go_at_call 7; refine (begun_any _).mono ?_; rintro e w1 ⟨rfl, b1⟩)
  obtain ⟨W, hW⟩ : ∃ W, W = w1.alloc (.cells #[.slice none 0 0, .slice none 0 0] 25) := ⟨_, rfl⟩
  have s1 := bel_self w1 (.cells #[.slice none 0 0, .slice none 0 0] 25)
  have v1 := BV.new w1 none 0 0 none 0 0
  rw [← hW] at s1 v1 ⊢
  have B1 := bel_call b1 (Nat.le_refl _) s1
  obtain ⟨gb, hgb⟩ : ∃ g, g = w1.heap.size := ⟨_, rfl⟩
  have hgw : w0.heap.size ≤ gb := by rw [hgb]; exact b1.size
  rw [← hgb] at v1
  simp only [← hgb]
  obtain ⟨base, hbase⟩ : ∃ b, b = W.heap.size := ⟨_, rfl⟩
  have hgbb : gb < base := by rw [hbase]; exact v1.lt
  have hbw0 : w0.heap.size ≤ base := by omega
  have x1 := Bx.nil W
  have sb1 := Sub.nil W base
  have hbs1 : base ≤ W.heap.size := by omega
  clear hgb hW s1 b1 w1 hbase
  go_loopw [6, 7] (fun a i wr => ∃ (k : Nat) (p1 : Option Addr) (c1 : Nat) (q1 : Option Addr) (d1 m : Nat) (pw : Option Addr) (cw : Nat) (Wt : List Int), k ≤ n ∧ i = .int .i64 k ∧ a = .slice pw m cw ∧ Wt.length = m ∧ m ≤ 4 ∧ BV wr gb p1 c1 0 q1 d1 m ∧ Bx wr p1 c1 0 [] q1 d1 m Wt ∧ Sub wr base pw cw Wt ∧ base ≤ wr.heap.size ∧ Below w0.heap.size w0 wr) (fun _ i _ => n - (intOf i).toNat)
  case atStart => exact ⟨0, none, 0, none, 0, 0, none, 0, [], by omega, rfl, rfl, rfl, by omega, v1, x1, sb1, hbs1, B1⟩
  case round =>
    obtain ⟨k, p1, c1', q1, d1', m, pw, cw, Wt, hk, rfl, rfl, hWm, hm4, vb, xb, hs, hbt, hbw⟩ := hrel
    have HW : Hid (Wt.length = m) := hWm
    clear hWm v1 x1 sb1 hbs1 B1
    by_cases hlt : k < n
    · have hkl : k < zs.length := by rw [HN.out]; exact hlt
      obtain ⟨b, o, rfl, hb, hc⟩ := (hr.below hbw).byte k hkl
      obtain ⟨hx0, hx1⟩ := hz zs[k] (List.getElem_mem hkl)
      generalize zs[k] = X at *
      obtain ⟨C, hC⟩ : ∃ C, 1 + X % 7 = C := ⟨_, rfl⟩
      have hC1 : 1 ≤ C := by omega
      have hC7 : C ≤ 7 := by omega
      have hkI : (k : Int) < (n : Int) := by omega
      go_wp2
      clear hC
      go_loop [9, 10] (fun a i => ∃ (j : Nat) (A : Bool), j ≤ m ∧ i = .int .i64 j ∧ a = .bool A ∧ Hid ((Wt.take j).any (· == C) = A)) (fun _ i => m - (intOf i).toNat)
      case atStart => exact ⟨0, false, by omega, rfl, rfl, rfl⟩
      case round =>
        obtain ⟨j, A, hj, rfl, rfl, HA⟩ := hrel
        by_cases hltj : j < m
        · have hjl : j < Wt.length := by rw [HW.out]; exact hltj
          have HT := any_take hjl C
          obtain ⟨b9, o9, rfl, hb9, hc9⟩ := hs.rd.num j hjl
          have hjI : (j : Int) < (m : Int) := by omega
          cases A with
          | true =>
            have HT2 : Hid ((Wt.take (j + 1)).any (· == C) = true) := by show _ = _; rw [HT, HA.out]; rfl
            clear HT
            go_wp2
            go_round
            case rel => exact ⟨j + 1, true, by omega, by go_num, rfl, HT2⟩
            case measure => simp [intOf]; omega
          | false =>
            obtain ⟨y, hy⟩ : ∃ y, Wt[j] = y := ⟨_, rfl⟩
            rw [hy] at hc9 HT
            cases hyC : (y == C) with
            | true =>
              have HT2 : Hid ((Wt.take (j + 1)).any (· == C) = true) := by show _ = _; rw [HT, hyC]; simp
              clear HT hy
              go_wp2
              go_round
              case rel => exact ⟨j + 1, true, by omega, by go_num, rfl, HT2⟩
              case measure => simp [intOf]; omega
            | false =>
              have HT2 : Hid ((Wt.take (j + 1)).any (· == C) = false) := by show _ = _; rw [HT, hyC, HA.out]; rfl
              clear HT hy
              go_wp2
              go_round
              case rel => exact ⟨j + 1, false, by omega, by go_num, rfl, HT2⟩
              case measure => simp [intOf]; omega
        · have hjm : j = m := by omega
          subst hjm
          have HA2 : Hid (Wt.any (· == C) = A) := by
            have := HA.out
            rw [List.take_of_length_le (by rw [HW.out]; exact Nat.le_refl _)] at this
            exact this
          clear HA
          have k0 := vb.c0
          have k1 := vb.c1
          have dj : decide ((j : Int) < (j : Int)) = false := by simp
          by_cases hno : A = true ∨ 4 ≤ j
          · obtain ⟨hO, hQ⟩ := ask_no (Q := Wt) (C := C) (hno.imp (fun h => HA2.out.trans h) (fun h => by rw [HW.out]; exact h))
            have HO : Hid (takeOk [] Wt C = false) := hO
            have HQ : Hid (takeQ [] Wt C = Wt) := hQ
            clear hO hQ
            have hcase : (A = true) ∨ (A = false ∧ 4 ≤ j) := by
              cases A
              · exact .inr ⟨rfl, by simpa using hno⟩
              · exact .inl rfl
            clear hno
            rcases hcase with rfl | ⟨rfl, h4⟩
            · go_wp2_with (first
                | (go_at_call 11; (with_reducible (refine (take_c xb C 0 ?h1 false ?h2 false HO.out [] Wt ?h3 HQ.out 0 j ?h4 HW.out (by decide) (by omega)).mono ?_)); (case h1 => simp [takeV, takeGot]); (case h2 => simp [takeGot]); (case h3 => simp [takeL]); (case h4 => rfl); (rintro e w6 ⟨p6, c6, q6, d6, rfl, x6, b6⟩)))
              have s6 := bel_self w6 (.cells #[.slice p6 0 c6, .slice q6 j d6] 25)
              go_roundw
              case rel => exact ⟨k + 1, p1, c1', q1, d1', j, pw, cw, Wt, by omega, by go_num, rfl, HW.out, by omega, (vb.below b6).below s6, (xb.below b6).below s6, (hs.below b6).below s6, Nat.le_trans hbt (Nat.le_trans b6.size s6.size), bel_call (bel_call hbw (Nat.le_refl _) b6) (Nat.le_refl _) s6⟩
              case measure => simp [intOf]; omega
            · have d4 : decide ((j : Int) < 4) = false := by simp; omega
              go_wp2_with (first
                | (go_at_call 11; (with_reducible (refine (take_c xb C 0 ?h1 false ?h2 false HO.out [] Wt ?h3 HQ.out 0 j ?h4 HW.out (by decide) (by omega)).mono ?_)); (case h1 => simp [takeV, takeGot]); (case h2 => simp [takeGot]); (case h3 => simp [takeL]); (case h4 => rfl); (rintro e w6 ⟨p6, c6, q6, d6, rfl, x6, b6⟩)))
              have s6 := bel_self w6 (.cells #[.slice p6 0 c6, .slice q6 j d6] 25)
              go_roundw
              case rel => exact ⟨k + 1, p1, c1', q1, d1', j, pw, cw, Wt, by omega, by go_num, rfl, HW.out, by omega, (vb.below b6).below s6, (xb.below b6).below s6, (hs.below b6).below s6, Nat.le_trans hbt (Nat.le_trans b6.size s6.size), bel_call (bel_call hbw (Nat.le_refl _) b6) (Nat.le_refl _) s6⟩
              case measure => simp [intOf]; omega
          · have hA : A = false := by
              cases A
              · rfl
              · exact absurd (Or.inl rfl) hno
            subst hA
            have h4 : j < 4 := by
              have : ¬ 4 ≤ j := fun h => hno (Or.inr h)
              omega
            obtain ⟨hO, hQ⟩ := ask_yes (Q := Wt) (C := C) (by omega) HA2.out (by rw [HW.out]; exact h4)
            have HO : Hid (takeOk [] Wt C = true) := hO
            have HQ : Hid (takeQ [] Wt C = Wt ++ [C]) := hQ
            have HM : Hid ((Wt ++ [C]).length = j + 1) := by show _ = _; simp [HW.out]
            clear hO hQ hno
            have d4 : decide ((j : Int) < 4) = true := by simp; omega
            go_wp2_with (first
              | (go_at_call 11; (with_reducible (refine (take_n xb C 0 ?h1 false ?h2 true HO.out [] (Wt ++ [C]) ?h3 HQ.out 0 (j + 1) ?h4 HM.out (by decide) (by omega)).mono ?_)); (case h1 => simp [takeV, takeGot]); (case h2 => simp [takeGot]); (case h3 => simp [takeL]); (case h4 => rfl); (rintro e w6 ⟨p6, c6, q6, d6, rfl, x6, na6, nb6, b6⟩)))
            have s6 := bel_self w6 (.cells #[.slice p6 0 c6, .slice q6 (j + 1) d6] 25)
            have hx := BV.new w6 p6 c6 0 q6 d6 (j + 1)
            have ap6 := Ap.new hs na6 []
            have aq6 := Ap.new hs nb6 (Wt ++ [C])
            have hs6 := hs.below b6
            have fx : Far pw w6.heap.size := Far.subHigh hs6 (Nat.le_refl _)
            have fb : Far pw gb := Far.subLow hs6 hgbb
            have hs := hs6.below s6
            have vg := (vb.below b6).below s6
            have x6 := x6.below s6
            have bt := bel_call (bel_call hbw (Nat.le_refl _) b6) (Nat.le_refl _) s6
            have hbt := Nat.le_trans hbt (Nat.le_trans b6.size s6.size)
            have hxb : w6.heap.size ≠ gb := by have := (vb.below b6).lt; omega
            obtain ⟨gx, hgx⟩ : ∃ g, g = w6.heap.size := ⟨_, rfl⟩
            rw [← hgx] at hx fx hxb
            simp only [← hgx]
            generalize w6.alloc (.cells #[.slice p6 0 c6, .slice q6 (j + 1) d6] 25) = wt at *
            have hxb' := Ne.symm hxb
            obtain ⟨m, hm⟩ : ∃ m, m = j := ⟨_, rfl⟩
            subst hm
            clear s6 b6 na6 nb6 hs6 hgx k0 k1 dj d4 vb xb
            refine wp_region_held_drew (S := fun w' => w'.heap[gx]? = wt.heap[gx]?) (by kernel_rfl) rfl (fun hHeld => ?_)
            refine wpAnyH_take (i := 0) (oi := _) (v := ?_) rfl (by kernel_rfl) (by kernel_rfl) (by kernel_rfl) (fun _ _ _ h => h) (Or.inl ⟨by rfl, ?_⟩) hHeld ?_
            rotate_left
            · intro w' hSw
              (go_simp <;> with_reducible rfl)
            try simp only [Act.put, List.getElem_toArray, List.getElem_cons_zero, List.setIfInBounds_toArray, List.set_cons_zero, List.set_cons_succ]
            refine wpAnyH_take (i := 1) (oi := _) (v := ?_) rfl (by kernel_rfl) (by kernel_rfl) (by kernel_rfl) (fun _ _ _ h => h) (Or.inl ⟨by rfl, ?_⟩) hHeld ?_
            rotate_left
            · intro w' hSw
              (go_simp <;> with_reducible rfl)
            try simp only [Act.put, List.getElem_toArray, List.getElem_cons_succ, List.getElem_cons_zero, List.setIfInBounds_toArray, List.set_cons_zero, List.set_cons_succ]
            refine wpAnyH_take (i := 4) (oi := _) (v := ?_) rfl (by kernel_rfl) (by kernel_rfl) (by kernel_rfl) (fun _ _ _ h => h) (Or.inl ⟨by rfl, ?_⟩) hHeld ?_
            rotate_left
            · intro w' hSw
              have hx' : BV w' gx p6 c6 0 q6 d6 (m + 1) := hSw.trans hx
              have s0 := hx'.c0
              have s1 := hx'.c1
              (go_simp <;> with_reducible rfl)
            try simp only [Act.put, List.getElem_toArray, List.getElem_cons_succ, List.getElem_cons_zero, List.setIfInBounds_toArray, List.set_cons_zero, List.set_cons_succ]
            refine wpAnyH_ready (rs := [2]) (by kernel_rfl) (by simp) ?_
            refine AllReadyH.cons (o := _) rfl (fun K hK => ?_) (AllReadyH.nil)
            go_simp
            have b7 : Below wt.heap.size wt (wt.alloc (.cells #[.int .i64 C] 3)) := bel_self _ _
            have hc7 : (wt.alloc (.cells #[.int .i64 C] 3)).cell? ⟨wt.heap.size, 0, none⟩ = some (.int .i64 C) := (Lv.new wt #[.int .i64 C] 3).c 0 rfl
            have b7d : Below wt.heap.size wt (wt.alloc (.cells #[.int .i64 C] 3)).drew := b7.drew
            have hc7d : (wt.alloc (.cells #[.int .i64 C] 3)).drew.cell? ⟨wt.heap.size, 0, none⟩ = some (.int .i64 C) := hc7
            refine hK.out _ _ (b7d.block gx (BV.lt hx)) (fun hHeld => ?_)
            clear hK K
            generalize (wt.alloc (.cells #[.int .i64 C] 3)).drew = w7 at *
            clear b7 hc7
            have hs := hs.below b7d
            have vg := vg.below b7d
            have hx := hx.below b7d
            have x6 := x6.below b7d
            have bt := bel_call bt (Nat.le_refl _) b7d
            try simp only [Act.put, List.getElem_toArray, List.getElem_cons_succ, List.getElem_cons_zero, List.setIfInBounds_toArray, List.set_cons_zero, List.set_cons_succ]
            refine wpAnyH_ready (rs := [3]) (by kernel_rfl) (by simp) ?_
            refine AllReadyH.cons (o := _) rfl (fun K hK => ?_) (AllReadyH.nil)
            refine step_one _ rfl _ _ rfl base pw cw Wt hs m HW.out (by omega) (Nat.le_trans hbt b7d.size) wt.heap.size 0 C hc7d rfl rfl ?_
            intro pn cn w8 sn zn os8 tp8 ou8 hb8 hp8
            have gx8 := hb8 gx (BV.lt hx) (fun o e => fx gx o e rfl)
            have gb8 := hb8 gb (BV.lt vg) (fun o e => fb gb o e rfl)
            have hx8 : BV w8 gx _ _ _ _ _ _ := gx8.trans hx
            have vg8 : BV w8 gb _ _ _ _ _ _ := gb8.trans vg
            have x8 : Bx w8 _ _ _ _ _ _ _ _ := x6.blocks (fun b o e hne hl => hb8 b hl (fun o2 e2 => ap6 b o2 e2 b o e hne rfl)) (fun b o e hne hl => hb8 b hl (fun o2 e2 => aq6 b o2 e2 b o e hne rfl))
            have bt8 : Below w0.heap.size w0 w8 := bt.trans ⟨os8, tp8, ou8, zn, fun k hk => hb8 k (Nat.lt_of_lt_of_le hk bt.size) (fun o e => absurd (hs.ge' e) (by omega))⟩
            have apn := Ap.next hp8 ap6 x6.rl
            have aqn := Ap.next hp8 aq6 x6.rq
            have fbn : Far pn gb := Far.next hp8 fb (BV.lt vg)
            refine hK.out _ _ (gx8.trans hHeld) (fun hHeld => ?_)
            clear hK K
            try simp only [Act.put, List.getElem_toArray, List.getElem_cons_succ, List.getElem_cons_zero, List.setIfInBounds_toArray, List.set_cons_zero, List.set_cons_succ]
            refine wpAnyH_take (i := 5) (oi := _) (v := ?_) rfl (by kernel_rfl) (by kernel_rfl) (by kernel_rfl) (fun _ _ _ h => h) (Or.inl ⟨by rfl, ?_⟩) hHeld ?_
            rotate_left
            · intro w' hSw
              (go_simp <;> with_reducible rfl)
            try simp only [Act.put, List.getElem_toArray, List.getElem_cons_succ, List.getElem_cons_zero, List.setIfInBounds_toArray, List.set_cons_zero, List.set_cons_succ]
            refine wpAnyH_ready (rs := [6]) (by kernel_rfl) (by simp) ?_
            refine AllReadyH.cons (o := _) rfl (fun K hK => ?_) (AllReadyH.nil)
            have z0 := vg8.c0
            have z1 := vg8.c1
            have y0 := vg8.fz 0
            have y1 := vg8.fz 1
            go_simp
            have v9 : BV ((w8.setCell ⟨gb, 0, none⟩ (.slice p6 0 c6)).setCell ⟨gb, 1, none⟩ (.slice q6 (m + 1) d6)) gb p6 c6 0 q6 d6 (m + 1) := vg8.put _ _ _ _ _ _
            have x9 := x8.stored vg8 (.slice p6 0 c6) (.slice q6 (m + 1) d6)
            have s9 := (sn.setFar fbn 0 (.slice p6 0 c6)).setFar fbn 1 (.slice q6 (m + 1) d6)
            have b9 : Below w0.heap.size w0 ((w8.setCell ⟨gb, 0, none⟩ (.slice p6 0 c6)).setCell ⟨gb, 1, none⟩ (.slice q6 (m + 1) d6)) := by refine Below.setCell (Below.setCell bt8 ?_ _) ?_ _ <;> exact hgw
            have t9 : base ≤ ((w8.setCell ⟨gb, 0, none⟩ (.slice p6 0 c6)).setCell ⟨gb, 1, none⟩ (.slice q6 (m + 1) d6)).heap.size := by
              simp [World.setCell]
              exact Nat.le_trans (Nat.le_trans hbt b7d.size) zn
            have hS9 : ((w8.setCell ⟨gb, 0, none⟩ (.slice p6 0 c6)).setCell ⟨gb, 1, none⟩ (.slice q6 (m + 1) d6)).heap[gx]? = wt.heap[gx]? := by
              rw [Below.heap_setCell _ _ _ _ hxb, Below.heap_setCell _ _ _ _ hxb]
              exact hHeld
            refine hK.out _ _ hS9 (fun hHeld => ?_)
            clear hK K
            try simp only [Act.put, List.getElem_toArray, List.getElem_cons_succ, List.getElem_cons_zero, List.setIfInBounds_toArray, List.set_cons_zero, List.set_cons_succ]
            refine wpAnyH_done (by kernel_rfl) ?_ _
            go_wp2_with fail
            go_roundw
            case rel => exact ⟨k + 1, p6, c6, q6, d6, m + 1, pn, cn, Wt ++ [C], by omega, by go_num, rfl, by simp [HW.out], by omega, v9, x9, s9, t9, b9⟩
            case measure => simp [intOf]; omega
    · have hkn : k = n := by omega
      have dk : decide ((k : Int) < (n : Int)) = false := by simp; omega
      clear hkn hr
      go_wp2
      obtain ⟨wo, hwo⟩ : ∃ wo : World, wo = wr := ⟨_, rfl⟩
      subst hwo
      go_loopw [15] (fun i wr => ∃ (j : Nat) (p1 : Option Addr) (c1 : Nat) (q1 : Option Addr) (d1 nl ml : Nat) (L : List Int), j ≤ ν ∧ i = .int .i64 j ∧ Hid ((j - m ≤ 4 ∧ nl = j - m) ∨ (4 ≤ j - m ∧ nl = 4)) ∧ Hid (ml = m - j) ∧ BV wr gb p1 c1 nl q1 d1 ml ∧ Bx wr p1 c1 nl L q1 d1 ml (Wt.drop j) ∧ Sub wr base pw cw Wt ∧ Below w0.heap.size w0 wr) (fun i _ => ν - (intOf i).toNat)
      case atStart => exact ⟨0, p1, c1', q1, d1', 0, m, [], by omega, rfl, .inl ⟨by omega, by omega⟩, by show m = m - 0; omega, vb, xb, hs, hbw⟩
      case round =>
        obtain ⟨j, p2, c2, q2, d2, nl, ml, L, hj, rfl, HNL, HML, vb2, xb2, hs2, hbw2⟩ := hrel
        clear vb xb hs hbw
        have k0 := vb2.c0
        have k1 := vb2.c1
        have hv := HV9.out
        by_cases hltj : j < ν
        · have dj : decide ((j : Int) < (ν : Int)) = true := by simp; omega
          have djI : (j : Int) < (ν : Int) := by omega
          by_cases hjm : j < m
          · have hjl : j < Wt.length := by rw [HW.out]; exact hjm
            obtain rfl : nl = 0 := by have := HNL.out; omega
            obtain rfl : L = [] := List.eq_nil_of_length_eq_zero xb2.ln
            have hdrop := List.drop_eq_getElem_cons hjl
            obtain ⟨b9, o9, rfl, hb9, hc9⟩ := hs2.rd.num j hjl
            obtain ⟨y, hy⟩ : ∃ y, Wt[j] = y := ⟨_, rfl⟩
            rw [hy] at hdrop hc9
            clear hy
            have HC : Hid (postC (Wt.drop j) = y) := by show _ = _; rw [hdrop]; rfl
            have HB : Hid (postB [] (Wt.drop j) = true) := by show _ = _; rw [hdrop]; rfl
            have HL : Hid (postL [] (Wt.drop j) (j : Int) = []) := by show _ = _; rw [hdrop]; rfl
            have HQ : Hid (postQ (Wt.drop j) = Wt.drop (j + 1)) := by show _ = _; rw [hdrop]; rfl
            have HM : Hid ((Wt.drop (j + 1)).length = m - (j + 1)) := by show _ = _; rw [List.length_drop, HW.out]
            have djm : decide ((j : Int) < (m : Int)) = true := by simp; omega
            have djm2 : (j : Int) < (m : Int) := by omega
            have HDD : Hid (ml = m - j) := HML
            clear hdrop HML
            go_wp2_with (first
              | (go_at_call 8; (with_reducible (refine (post_c xb2 (j : Int) y HC.out true HB.out [] (Wt.drop (j + 1)) HL.out HQ.out 0 (m - (j + 1)) ?h1 HM.out (by decide) (by omega)).mono ?_)); (case h1 => rfl); (rintro e w6 ⟨p6, c6, q6, d6, rfl, x6, b6⟩; have v6 := vb2.below b6; have lt6 := BV.lt v6; have e0 := v6.c0; have e1 := v6.c1; have f0 := v6.fz 0; have f1 := v6.fz 1; have hc9 := (b6.cell (p := ⟨b9, o9 + j, none⟩) hb9).trans hc9; have hb9 := Nat.lt_of_lt_of_le hb9 b6.size; have s6 := hs2.below b6)))
            have fb := Far.subLow s6 hgbb
            have v7 := v6.put p6 c6 0 q6 d6 (m - (j + 1))
            have x7 := x6.stored v6 (.slice p6 0 c6) (.slice q6 (m - (j + 1)) d6)
            have s7 := (s6.setFar fb 0 (.slice p6 0 c6)).setFar fb 1 (.slice q6 (m - (j + 1)) d6)
            have b7 : Below w0.heap.size w0 ((w6.setCell ⟨gb, 0, none⟩ (.slice p6 0 c6)).setCell ⟨gb, 1, none⟩ (.slice q6 (m - (j + 1)) d6)) := by
              refine Below.setCell (Below.setCell (bel_call hbw2 (Nat.le_refl _) b6) ?_ _) ?_ _ <;> exact hgw
            have a7 := bel_self ((w6.setCell ⟨gb, 0, none⟩ (.slice p6 0 c6)).setCell ⟨gb, 1, none⟩ (.slice q6 (m - (j + 1)) d6)) (.cells #[.slice p6 0 c6, .slice q6 (m - (j + 1)) d6] 25)
            go_roundw
            case rel => exact ⟨j + 1, p6, c6, q6, d6, 0, m - (j + 1), [], by omega, by go_num, .inl ⟨by omega, by omega⟩, rfl, v7.below a7, x7.below a7, s7.below a7, bel_call b7 (Nat.le_refl _) a7⟩
            case measure => simp [intOf]; omega
          · have hdrop : Wt.drop j = [] := List.drop_eq_nil_of_le (by rw [HW.out]; omega)
            rw [hdrop] at xb2
            obtain rfl : ml = 0 := xb2.lm.symm
            have djm : decide ((j : Int) < (m : Int)) = false := by simp; omega
            have hjm2 : m ≤ j := by omega
            have HDR : Hid (Wt.drop (j + 1) = []) := List.drop_eq_nil_of_le (by rw [HW.out]; omega)
            clear hdrop
            by_cases h4 : nl < 4
            · have hj4 : (j : Int) - (m : Int) < 4 := by have := HNL.out; omega
              have dj4 : decide ((j : Int) - (m : Int) < 4) = true := by simpa using hj4
              have HB : Hid (postB L [] = true) := by show _ = _; simp [postB, xb2.ln, h4]
              have HL : Hid (postL L [] (j : Int) = L ++ [(j : Int)]) := by show _ = _; simp [postL, xb2.ln, h4]
              have HM : Hid ((L ++ [(j : Int)]).length = nl + 1) := by show _ = _; simp [xb2.ln]
              go_wp2_with (first
                | (go_at_call 8; (with_reducible (refine (post_c xb2 (j : Int) 0 ?h1 true HB.out (L ++ [(j : Int)]) [] HL.out ?h2 (nl + 1) 0 HM.out ?h3 (by omega) (by decide)).mono ?_)); (case h1 => rfl); (case h2 => rfl); (case h3 => rfl); (rintro e w6 ⟨p6, c6, q6, d6, rfl, x6, b6⟩; have v6 := vb2.below b6; have lt6 := BV.lt v6; have e0 := v6.c0; have e1 := v6.c1; have f0 := v6.fz 0; have f1 := v6.fz 1; have s6 := hs2.below b6)))
              have fb := Far.subLow s6 hgbb
              have v7 := v6.put p6 c6 (nl + 1) q6 d6 0
              have x7 := x6.stored v6 (.slice p6 (nl + 1) c6) (.slice q6 0 d6)
              have s7 := (s6.setFar fb 0 (.slice p6 (nl + 1) c6)).setFar fb 1 (.slice q6 0 d6)
              have b7 : Below w0.heap.size w0 ((w6.setCell ⟨gb, 0, none⟩ (.slice p6 (nl + 1) c6)).setCell ⟨gb, 1, none⟩ (.slice q6 0 d6)) := by
                refine Below.setCell (Below.setCell (bel_call hbw2 (Nat.le_refl _) b6) ?_ _) ?_ _ <;> exact hgw
              have a7 := bel_self ((w6.setCell ⟨gb, 0, none⟩ (.slice p6 (nl + 1) c6)).setCell ⟨gb, 1, none⟩ (.slice q6 0 d6)) (.cells #[.slice p6 (nl + 1) c6, .slice q6 0 d6] 25)
              rw [← HDR.out] at x7
              go_roundw
              case rel => exact ⟨j + 1, p6, c6, q6, d6, nl + 1, 0, _, by omega, by go_num, .inl (by have := HNL.out; omega), (by show 0 = m - (j + 1); omega), v7.below a7, x7.below a7, s7.below a7, bel_call b7 (Nat.le_refl _) a7⟩
              case measure => simp [intOf]; omega
            · have hj4 : ¬ (j : Int) - (m : Int) < 4 := by have := HNL.out; omega
              have dj4 : decide ((j : Int) - (m : Int) < 4) = false := by simpa using hj4
              have HB : Hid (postB L [] = false) := by show _ = _; simp [postB, xb2.ln, h4]
              have HL : Hid (postL L [] (j : Int) = L) := by show _ = _; simp [postL, xb2.ln, h4]
              have HLL : Hid (L.length = nl) := xb2.ln
              go_wp2_with (first
                | (go_at_call 8; (with_reducible (refine (post_c xb2 (j : Int) 0 ?h1 false HB.out L [] HL.out ?h2 nl 0 HLL.out ?h3 (by have := HNL.out; omega) (by decide)).mono ?_)); (case h1 => rfl); (case h2 => rfl); (case h3 => rfl); (rintro e w6 ⟨p6, c6, q6, d6, rfl, x6, b6⟩; have v6 := vb2.below b6; have lt6 := BV.lt v6; have e0 := v6.c0; have e1 := v6.c1; have f0 := v6.fz 0; have f1 := v6.fz 1; have s6 := hs2.below b6)))
              have fb := Far.subLow s6 hgbb
              have v7 := v6.put p6 c6 nl q6 d6 0
              have x7 := x6.stored v6 (.slice p6 nl c6) (.slice q6 0 d6)
              have s7 := (s6.setFar fb 0 (.slice p6 nl c6)).setFar fb 1 (.slice q6 0 d6)
              have b7 : Below w0.heap.size w0 ((w6.setCell ⟨gb, 0, none⟩ (.slice p6 nl c6)).setCell ⟨gb, 1, none⟩ (.slice q6 0 d6)) := by
                refine Below.setCell (Below.setCell (bel_call hbw2 (Nat.le_refl _) b6) ?_ _) ?_ _ <;> exact hgw
              have a7 := bel_self ((w6.setCell ⟨gb, 0, none⟩ (.slice p6 nl c6)).setCell ⟨gb, 1, none⟩ (.slice q6 0 d6)) (.cells #[.slice p6 nl c6, .slice q6 0 d6] 25)
              rw [← HDR.out] at x7
              go_roundw
              case rel => exact ⟨j + 1, p6, c6, q6, d6, nl, 0, _, by omega, by go_num, .inr (by have := HNL.out; omega), (by show 0 = m - (j + 1); omega), v7.below a7, x7.below a7, s7.below a7, bel_call b7 (Nat.le_refl _) a7⟩
              case measure => simp [intOf]; omega
        · have dj : decide ((j : Int) < (ν : Int)) = false := by simp; omega
          go_wp2
          go_ret
          exact ⟨rfl, hbw2⟩
end Go.Proofs.Ytfghondhonflaaa
