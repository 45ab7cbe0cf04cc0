/-
  The law SlotsWild returns true, by its own Go text; nothing that was there has turned.
-/
import Derived.Test.YtflfmcclihahmaaBegun
namespace Go.Proofs.Ytflfmcclihahmaa
open Go.ChangeShapes Go.WideShapes Go.ChangeAt Go.RowKit Go.Maps
attribute [local go_sem ↓] Go.wp_at_zero Go.wp_at_succ

theorem small_tg {gs : List Int} (h : ∀ g ∈ gs, -1099511627776 ≤ g ∧ g ≤ 1099511627776) (bs : List Bool) : Small (tg gs bs) := by
  intro x hx
  unfold tg at hx
  split at hx
  · rename_i k hk
    rcases List.mem_or_eq_of_mem_set hx with h1 | h1
    · have := h x h1; omega
    · have := (freeIn_lt hk).1
      have h2 := h gs[k] (List.getElem_mem this)
      rw [h1, List.getD_eq_getElem?_getD, List.getElem?_eq_getElem this]
      simp; omega
  · have := h x hx; omega
theorem lenM_eq (gs : List Int) (bs : List Bool) : lenM gs bs = (bs.take (min gs.length bs.length)).count true := rfl

set_option maxHeartbeats 2000000 in
theorem wild_walk (p0 p1 : Option Addr) (c0 c1 n m : Nat) (gs : List Int) (bs : List Bool) (a g : Int) (w : World) (hg : Rd w (Value.int .i64) p0 c0 gs) (hi : Rd w Value.bool p1 c1 bs) (hn : n = gs.length) (hm : m = bs.length) (ha : (Lit.int .i64 a).wf = true) (hgw : (Lit.int .i64 g).wf = true) (hmx : m ≤ 9223372036854775807) (hnx : n ≤ 9223372036854775807) :
    Calls Try.prog 6 #[.slice p0 n c0, .slice p1 m c1, .agg #[.int .i64 a, .int .i64 g]] w fun e w' => e = .returned (.bool true) ∧ Below w.heap.size w w' := by
  have HN : Hid (n = gs.length) := hn
  have HM : Hid (m = bs.length) := hm
  clear hn hm
  by_cases h10 : 10 < n
  · have d : decide (10 < n) = true := by simpa using h10
    go_enter Try.func6, Try.ntmps6
    go_wp2_with (go_at_call 7; refine (begun_any _).mono ?_; rintro e w1 ⟨rfl, hb1⟩)
    go_ret
    exact ⟨rfl, bel_call (bel1 _ _) (Nat.le_refl _) hb1⟩
  by_cases h11 : 10 < m
  · have d : decide (10 < m) = true := by simpa using h11
    go_enter Try.func6, Try.ntmps6
    go_wp2_with (go_at_call 7; refine (begun_any _).mono ?_; rintro e w1 ⟨rfl, hb1⟩)
    go_ret
    exact ⟨rfl, bel_call (bel1 _ _) (Nat.le_refl _) hb1⟩
  have dn : n ≤ 10 := by omega
  have dm : m ≤ 10 := by omega
  have e10 : decide (10 < n) = false := by simpa using h10
  have e11 : decide (10 < m) = false := by simpa using h11
  clear hmx hnx
  go_enter Try.func6, Try.ntmps6
  go_wp2_with (go_at_call 7; refine (begun_any _).mono ?_; rintro e w1 ⟨rfl, hb1⟩)
  have hh1 : At2 w1 w.heap.size (.int .i64 a) (.int .i64 g) := (At2.new w _ _ _).below hb1
  have hw1 : Below w.heap.size w w1 := bel_call (bel1 _ _) (Nat.le_refl _) hb1
  replace hg := hg.below hw1
  replace hi := hi.below hw1
  clear hb1
  go_loop [7] (fun i => ∃ k : Nat, k ≤ n ∧ i = .int .i64 k ∧ ∀ j (_ : j < k) (hj' : j < gs.length), -1099511627776 ≤ gs[j] ∧ gs[j] ≤ 1099511627776) (fun i => n - (intOf i).toNat)
  case atStart => exact ⟨0, Nat.zero_le _, rfl, fun j hj => by omega⟩
  case round =>
    obtain ⟨k, hk, rfl, hall⟩ := hrel
    have HA : Hid (∀ j (_ : j < k) (hj' : j < gs.length), -1099511627776 ≤ gs[j] ∧ gs[j] ≤ 1099511627776) := hall
    clear hall
    by_cases hlt : k < n
    · have hkg : k < gs.length := by rw [← HN.out]; exact hlt
      obtain ⟨b, o, rfl, hb, hc⟩ := hg.some (by omega)
      have hck := hc k hkg
      obtain ⟨y, hy⟩ : ∃ y, gs[k] = y := ⟨_, rfl⟩
      rw [hy] at hck
      have HY : Hid (gs[k] = y) := hy
      clear hc hy
      have z0 : (k : Int) < (n : Int) := by omega
      by_cases hhi : 1099511627776 < y
      · go_wp2
        go_ret
        exact ⟨rfl, hw1⟩
      · by_cases hlo : y < -1099511627776
        · go_wp2
          go_ret
          exact ⟨rfl, hw1⟩
        · go_wp2
          go_round
          case rel => exact ⟨k + 1, by omega, by go_num, fun j hj hj' => by
            by_cases e : j = k
            · subst e; rw [HY.out]; omega
            · exact HA.out j (by omega) hj'⟩
          case measure => simp [intOf]; omega
    · have hkn : k = n := by omega
      subst hkn
      have HB : Hid (∀ x ∈ gs, -1099511627776 ≤ x ∧ x ≤ 1099511627776) := fun x hx => by
        obtain ⟨j, hj, rfl⟩ := List.getElem_of_mem hx
        exact HA.out j (by rw [HN.out]; exact hj) hj
      have S1 : Sl w1 p0 c0 p1 c1 k m gs bs := ⟨hg, hi, HN.out, HM.out, by omega, by omega, fun x hx => by have := HB.out x hx; omega⟩
      have h1l := hh1.lt
      have h1m := hh1.lt1
      have h1x := hh1.1
      have h1y := hh1.2
      have h1 := hh1
      have dlt : decide (k < k) = false := by simp
      go_wp2_with (first
        | (go_at_call 10; refine (take_n p0 p1 c0 c1 k m gs bs (tg gs bs) (tb gs bs) (tAt gs bs) (tGen gs bs) (tOk gs bs) _ (S1.below (bel2 _ _ _)) rfl rfl rfl rfl rfl (small_tg HB.out bs)).mono ?_; rintro e w2 ⟨gp2, gc2, ip2, ic2, rfl, hs2, hb2⟩; have S2 := (S1.below (bel2 _ _ _)).below hb2; have h2 := (h1.below (bel2 _ _ _)).below hb2; have a2 := (At2.new1 w1 _ _ _ _).below hb2; have b2 := (At2.new2 w1 _ _ _ _).below hb2; have h2l := h2.lt; have h2m := h2.lt1; have h2x := h2.1; have h2y := h2.2; have a2l := a2.lt; have a2m := a2.lt1; have a2x := a2.1; have a2y := a2.2; have b2l := b2.lt; have b2m := b2.lt1; have b2x := b2.1; have b2y := b2.2; clear h1x h1y)
        | (go_at_call 11; refine (takeSlot_n p0 p1 c0 c1 k m gs bs (tg gs bs) (tb gs bs) (tAt gs bs) (tGen gs bs) (tOk gs bs) _ (S2.below (bel2 _ _ _)) rfl rfl rfl rfl rfl (small_tg HB.out bs)).mono ?_; rintro e w3 ⟨gp3, gc3, ip3, ic3, rfl, hs3, hb3⟩; have S3 := (S2.below (bel2 _ _ _)).below hb3; have h3 := (h2.below (bel2 _ _ _)).below hb3; have a3 := (a2.below (bel2 _ _ _)).below hb3; have b3 := (b2.below (bel2 _ _ _)).below hb3; have x3 := (At2.new1 w2 _ _ _ _).below hb3; have q3 := (At2.new2 w2 _ _ _ _).below hb3; have h3l := h3.lt; have h3m := h3.lt1; have h3x := h3.1; have h3y := h3.2; have a3l := a3.lt; have a3m := a3.lt1; have a3x := a3.1; have a3y := a3.2; have b3l := b3.lt; have b3m := b3.lt1; have b3x := b3.1; have b3y := b3.2; have x3l := x3.lt; have x3m := x3.lt1; have x3x := x3.1; have x3y := x3.2; have q3l := q3.lt; have q3m := q3.lt1; have q3x := q3.1; have q3y := q3.2; clear h2x h2y a2x a2y b2x b2y)
        | (go_at_call 12; refine (free_n p0 p1 c0 c1 k m gs bs (fb gs bs a g) a g (hasM gs bs a g) _ (S3.below (bel2 _ _ _)) ha hgw rfl rfl).mono ?_; rintro e w4 ⟨gp4, gc4, ip4, ic4, rfl, hs4, hb4⟩; have S4 := (S3.below (bel2 _ _ _)).below hb4; have h4 := (h3.below (bel2 _ _ _)).below hb4; have a4 := (a3.below (bel2 _ _ _)).below hb4; have b4 := (b3.below (bel2 _ _ _)).below hb4; have x4 := (x3.below (bel2 _ _ _)).below hb4; have q4 := (q3.below (bel2 _ _ _)).below hb4; have y4 := (At2.new1 w3 _ _ _ _).below hb4; have r4 := (At2.new2 w3 _ _ _ _).below hb4; have h4l := h4.lt; have h4m := h4.lt1; have h4x := h4.1; have h4y := h4.2; have a4l := a4.lt; have a4m := a4.lt1; have a4x := a4.1; have a4y := a4.2; have b4l := b4.lt; have b4m := b4.lt1; have b4x := b4.1; have b4y := b4.2; have x4l := x4.lt; have x4m := x4.lt1; have x4x := x4.1; have x4y := x4.2; have q4l := q4.lt; have q4m := q4.lt1; have q4x := q4.1; have q4y := q4.2; have y4l := y4.lt; have y4m := y4.lt1; have y4x := y4.1; have y4y := y4.2; have r4l := r4.lt; have r4m := r4.lt1; have r4x := r4.1; have r4y := r4.2; clear h3x h3y a3x a3y b3x b3y x3x x3y q3x q3y)
        | (go_at_call 13; refine (freeSlot_n p0 p1 c0 c1 k m gs bs (fb gs bs a g) a g (hasM gs bs a g) _ (S4.below (bel1 _ _)) rfl rfl).mono ?_; rintro e w5 ⟨gp5, gc5, ip5, ic5, rfl, hs5, hb5⟩; have S5 := (S4.below (bel1 _ _)).below hb5; have h5 := (h4.below (bel1 _ _)).below hb5; have a5 := (a4.below (bel1 _ _)).below hb5; have b5 := (b4.below (bel1 _ _)).below hb5; have x5 := (x4.below (bel1 _ _)).below hb5; have q5 := (q4.below (bel1 _ _)).below hb5; have y5 := (y4.below (bel1 _ _)).below hb5; have r5 := (r4.below (bel1 _ _)).below hb5; have u5 := (At2.new w4 _ _ _).below hb5; have h5l := h5.lt; have h5m := h5.lt1; have h5x := h5.1; have h5y := h5.2; have a5l := a5.lt; have a5m := a5.lt1; have a5x := a5.1; have a5y := a5.2; have b5l := b5.lt; have b5m := b5.lt1; have b5x := b5.1; have b5y := b5.2; have x5l := x5.lt; have x5m := x5.lt1; have x5x := x5.1; have x5y := x5.2; have q5l := q5.lt; have q5m := q5.lt1; have q5x := q5.1; have q5y := q5.2; have y5l := y5.lt; have y5m := y5.lt1; have y5x := y5.1; have y5y := y5.2; have r5l := r5.lt; have r5m := r5.lt1; have r5x := r5.1; have r5y := r5.2; have u5l := u5.lt; have u5m := u5.lt1; have u5x := u5.1; have u5y := u5.2; clear h4x h4y a4x a4y b4x b4y x4x x4y q4x q4y y4x y4y r4x r4y))
      have hWb : Below w.heap.size w w5 := bel_call (bel_call (bel_call (bel_call (bel_call (bel_call (bel_call (bel_call hw1 (Nat.le_refl _) (bel2 w1 _ _)) (Nat.le_refl _) hb2) (Nat.le_refl _) (bel2 w2 _ _)) (Nat.le_refl _) hb3) (Nat.le_refl _) (bel2 w3 _ _)) (Nat.le_refl _) hb4) (Nat.le_refl _) (bel1 w4 _)) (Nat.le_refl _) (hb5)
      replace hWb : Below w.heap.size w (w5.alloc (Obj.cells #[Value.slice gp5 k gc5, Value.slice ip5 m ic5] 31)) := bel_call hWb (Nat.le_refl _) (bel1 w5 _)
      have h6 := h5.below (bel1 w5 (Obj.cells #[Value.slice gp5 k gc5, Value.slice ip5 m ic5] 31))
      have a6 := a5.below (bel1 w5 (Obj.cells #[Value.slice gp5 k gc5, Value.slice ip5 m ic5] 31))
      have b6 := b5.below (bel1 w5 (Obj.cells #[Value.slice gp5 k gc5, Value.slice ip5 m ic5] 31))
      have x6 := x5.below (bel1 w5 (Obj.cells #[Value.slice gp5 k gc5, Value.slice ip5 m ic5] 31))
      have q6 := q5.below (bel1 w5 (Obj.cells #[Value.slice gp5 k gc5, Value.slice ip5 m ic5] 31))
      have y6 := y5.below (bel1 w5 (Obj.cells #[Value.slice gp5 k gc5, Value.slice ip5 m ic5] 31))
      have r6 := r5.below (bel1 w5 (Obj.cells #[Value.slice gp5 k gc5, Value.slice ip5 m ic5] 31))
      have u6 := u5.below (bel1 w5 (Obj.cells #[Value.slice gp5 k gc5, Value.slice ip5 m ic5] 31))
      have v6 := At2.new w5 (.slice gp5 k gc5) (.slice ip5 m ic5) 31
      have SA := S5.below (bel1 w5 (Obj.cells #[Value.slice gp5 k gc5, Value.slice ip5 m ic5] 31))
      have SX := (((((((hs2.sl.below (bel2 w2 _ _)).below hb3).below (bel2 w3 _ _)).below hb4).below (bel1 w4 _)).below hb5).below (bel1 w5 (Obj.cells #[Value.slice gp5 k gc5, Value.slice ip5 m ic5] 31)))
      have SY := (((((hs3.sl.below (bel2 w3 _ _)).below hb4).below (bel1 w4 _)).below hb5).below (bel1 w5 (Obj.cells #[Value.slice gp5 k gc5, Value.slice ip5 m ic5] 31)))
      have SU := (((hs4.sl.below (bel1 w4 _)).below hb5).below (bel1 w5 (Obj.cells #[Value.slice gp5 k gc5, Value.slice ip5 m ic5] 31)))
      have SV := (hs5.sl.below (bel1 w5 (Obj.cells #[Value.slice gp5 k gc5, Value.slice ip5 m ic5] 31)))
      generalize (w5.alloc (Obj.cells #[Value.slice gp5 k gc5, Value.slice ip5 m ic5] 31)) = W at *
      have kS : ∀ w', Below W.heap.size W w' → w'.cell? ⟨w.heap.size, 0, none⟩ = some (.int .i64 a) ∧ w'.cell? ⟨w.heap.size, 1, none⟩ = some (.int .i64 g) ∧ w'.cell? ⟨w1.heap.size, 0, none⟩ = some (.slice p0 k c0) ∧ w'.cell? ⟨w1.heap.size, 1, none⟩ = some (.slice p1 m c1) ∧ w'.cell? ⟨w1.heap.size + 1, 0, none⟩ = some (.slice p0 k c0) ∧ w'.cell? ⟨w1.heap.size + 1, 1, none⟩ = some (.slice p1 m c1) ∧ w'.cell? ⟨w2.heap.size, 0, none⟩ = some (.slice gp2 k gc2) ∧ w'.cell? ⟨w2.heap.size, 1, none⟩ = some (.slice ip2 m ic2) ∧ w'.cell? ⟨w2.heap.size + 1, 0, none⟩ = some (.int .i64 (tAt gs bs)) ∧ w'.cell? ⟨w2.heap.size + 1, 1, none⟩ = some (.int .i64 (tGen gs bs)) ∧ w'.cell? ⟨w3.heap.size, 0, none⟩ = some (.slice gp3 k gc3) ∧ w'.cell? ⟨w3.heap.size, 1, none⟩ = some (.slice ip3 m ic3) ∧ w'.cell? ⟨w3.heap.size + 1, 0, none⟩ = some (.int .i64 (tAt gs bs)) ∧ w'.cell? ⟨w3.heap.size + 1, 1, none⟩ = some (.int .i64 (tGen gs bs)) ∧ w'.cell? ⟨w4.heap.size, 0, none⟩ = some (.slice gp4 k gc4) ∧ w'.cell? ⟨w4.heap.size, 1, none⟩ = some (.slice ip4 m ic4) ∧ w'.cell? ⟨w5.heap.size, 0, none⟩ = some (.slice gp5 k gc5) ∧ w'.cell? ⟨w5.heap.size, 1, none⟩ = some (.slice ip5 m ic5) := fun w' hb => ⟨(h6.below hb).1, (h6.below hb).2, (a6.below hb).1, (a6.below hb).2, (b6.below hb).1, (b6.below hb).2, (x6.below hb).1, (x6.below hb).2, (q6.below hb).1, (q6.below hb).2, (y6.below hb).1, (y6.below hb).2, (r6.below hb).1, (r6.below hb).2, (u6.below hb).1, (u6.below hb).2, (v6.below hb).1, (v6.below hb).2⟩
      have HC : Hid (∀ j (hj : j < bs.length), (bs.take (j + 1)).count true = (bs.take j).count true + (if bs[j] = true then 1 else 0)) := fun j hj => by
        rw [List.take_succ_eq_append_getElem hj, List.count_append]
        cases bs[j] <;> simp
      have HCL : Hid (∀ j, (bs.take j).count true ≤ 64) := fun j => Nat.le_trans (Nat.le_trans List.count_le_length (List.length_take_le' _ _)) (by rw [← HM.out]; omega)
      clear h5x h5y a5x a5y b5x b5y x5x x5y q5x q5y y5x y5y r5x r5y u5x u5y
      go_loop [20, 21] (fun nn i => ∃ j cc : Nat, j ≤ min k m ∧ i = .int .i64 j ∧ nn = .int .i64 cc ∧ (bs.take j).count true = cc) (fun _ i => min k m - (intOf i).toNat)
      case atStart => exact ⟨0, 0, Nat.zero_le _, rfl, rfl, by simp⟩
      case round =>
        obtain ⟨j, cc, hj, rfl, rfl, hcc⟩ := hrel
        have hcl : cc ≤ 64 := by rw [← hcc]; exact HCL.out j
        have HCC : Hid ((bs.take j).count true = cc) := hcc
        clear hcc
        by_cases hlt : j < min k m
        · have hjb : j < bs.length := by rw [← HM.out]; omega
          obtain ⟨b', o', rfl, _, hbc⟩ := SA.i.some (by omega)
          have hck := hbc j hjb
          clear hbc
          have hcs := HC.out j hjb
          have z0 : (j : Int) < (k : Int) := by omega
          have z1 : (j : Int) < (m : Int) := by omega
          rw [HCC.out] at hcs
          cases hx : bs[j] with
          | false =>
            rw [hx] at hck hcs
            have HCS : Hid ((bs.take (j + 1)).count true = cc) := (by simpa using hcs : (bs.take (j + 1)).count true = cc)
            clear hx hcs
            go_wp2
            all_goals
              go_round
              case rel => exact ⟨j + 1, cc, by omega, by go_num, rfl, HCS.out⟩
              case measure => simp [intOf]; omega
          | true =>
            rw [hx] at hck hcs
            have HCS : Hid ((bs.take (j + 1)).count true = cc + 1) := (by simpa using hcs : (bs.take (j + 1)).count true = cc + 1)
            clear hx hcs
            go_wp2
            all_goals
              go_round
              case rel => exact ⟨j + 1, cc + 1, by omega, by go_num, by go_num, HCS.out⟩
              case measure => simp [intOf]; omega
        · have hjm : j = min k m := by omega
          have HL : Hid (lenM gs bs = cc) := by
            show lenM gs bs = cc
            rw [lenM_eq, ← HN.out, ← HM.out, ← hjm]; exact HCC.out
          have hge : ¬ (j < k ∧ j < m) := by omega
          clear hjm
          go_wp2
          all_goals
            go_region_held3 (fun w' => w'.cell? ⟨w.heap.size, 0, none⟩ = some (.int .i64 a) ∧ w'.cell? ⟨w.heap.size, 1, none⟩ = some (.int .i64 g) ∧ w'.cell? ⟨w1.heap.size, 0, none⟩ = some (.slice p0 k c0) ∧ w'.cell? ⟨w1.heap.size, 1, none⟩ = some (.slice p1 m c1) ∧ w'.cell? ⟨w1.heap.size + 1, 0, none⟩ = some (.slice p0 k c0) ∧ w'.cell? ⟨w1.heap.size + 1, 1, none⟩ = some (.slice p1 m c1) ∧ w'.cell? ⟨w2.heap.size, 0, none⟩ = some (.slice gp2 k gc2) ∧ w'.cell? ⟨w2.heap.size, 1, none⟩ = some (.slice ip2 m ic2) ∧ w'.cell? ⟨w2.heap.size + 1, 0, none⟩ = some (.int .i64 (tAt gs bs)) ∧ w'.cell? ⟨w2.heap.size + 1, 1, none⟩ = some (.int .i64 (tGen gs bs)) ∧ w'.cell? ⟨w3.heap.size, 0, none⟩ = some (.slice gp3 k gc3) ∧ w'.cell? ⟨w3.heap.size, 1, none⟩ = some (.slice ip3 m ic3) ∧ w'.cell? ⟨w3.heap.size + 1, 0, none⟩ = some (.int .i64 (tAt gs bs)) ∧ w'.cell? ⟨w3.heap.size + 1, 1, none⟩ = some (.int .i64 (tGen gs bs)) ∧ w'.cell? ⟨w4.heap.size, 0, none⟩ = some (.slice gp4 k gc4) ∧ w'.cell? ⟨w4.heap.size, 1, none⟩ = some (.slice ip4 m ic4) ∧ w'.cell? ⟨w5.heap.size, 0, none⟩ = some (.slice gp5 k gc5) ∧ w'.cell? ⟨w5.heap.size, 1, none⟩ = some (.slice ip5 m ic5))
              ((first | with_reducible (exact kS _ hB11) | with_reducible (exact kS _ hB10) | with_reducible (exact kS _ hB9) | with_reducible (exact kS _ hB8) | with_reducible (exact kS _ hB7) | exact kS _ (Below.refl _ _).drew))
              ((first
                | (go_at_call_of 14 gp2; refine (same_n gp2 ip2 gp3 ip3 gc2 ic2 gc3 ic3 k m (tg gs bs) (tb gs bs) _ (SX.below (Below.refl _ _).drew) (SY.below (Below.refl _ _).drew)).mono ?_; rintro e w7 ⟨rfl, hb7⟩; have hB7 : Below W.heap.size W w7 := (Below.refl _ _).drew.trans hb7)
                | (go_at_call_of 14 gp4; refine (same_n gp4 ip4 gp5 ip5 gc4 ic4 gc5 ic5 k m gs (fb gs bs a g) _ (SU.below hB7) (SV.below hB7)).mono ?_; rintro e w8 ⟨rfl, hb8⟩; have hB8 := bel_call hB7 (Nat.le_refl _) hb8)
                | (go_at_call 15; refine (has_n p0 p1 c0 c1 k m gs bs a g (hasM gs bs a g) _ (SA.below hB8) ha hgw rfl).mono ?_; rintro e w9 ⟨rfl, hb9⟩; have hB9 := bel_call hB8 (Nat.le_refl _) hb9)
                | (go_at_call 16; refine (hasSlot_n p0 p1 c0 c1 k m gs bs a g (hasM gs bs a g) _ (SA.below hB9) rfl).mono ?_; rintro e w10 ⟨rfl, hb10⟩; have hB10 := bel_call hB9 (Nat.le_refl _) hb10)
                | (go_at_call 17; refine (len_n p0 p1 c0 c1 k m gs bs cc _ (SA.below hB10) HL.out).mono ?_; rintro e w11 ⟨rfl, hb11⟩; have hB11 := bel_call hB10 (Nat.le_refl _) hb11)))
            go_wp2
            go_ret
            exact ⟨rfl, bel_call hWb (Nat.le_refl _) hB11⟩

end Go.Proofs.Ytflfmcclihahmaa
