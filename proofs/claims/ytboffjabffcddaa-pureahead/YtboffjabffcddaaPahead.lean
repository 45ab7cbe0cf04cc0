/-
  The law PureAhead, walked.
-/
import Derived.Test.YtboffjabffcddaaPrun
import Derived.Test.YtboffjabffcddaaMadez
import Derived.Test.YtboffjabffcddaaPmath
import Derived.WalkSpells
namespace Go.Proofs.Ytboffjabffcddaa
open Go.ChangeShapes Go.WideShapes Go.ChangeAt Go.RowKit
attribute [local go_sem ↓] Go.wp_at_zero Go.wp_at_succ

theorem i32_in {n : Int} (h : (Lit.int .i32 n).wf = true) : -2147483648 ≤ n ∧ n ≤ 2147483647 := by
  simp only [Lit.wf, Bool.and_eq_true, decide_eq_true_eq] at h
  exact h
set_option maxRecDepth 100000 in
set_option maxHeartbeats 8000000 in
theorem ahead_walk (p : Option Addr) (c : Nat) (n : Nat) (zs : List Int) (w : World) (hp : Rd eBy w p c zs) (hn : zs.length = n) (hbz : ∀ x ∈ zs, 0 ≤ x ∧ x ≤ 255) (hm1 : n ≤ 9223372036854775807) (a : Int) (ha0 : -9223372036854775808 ≤ a) (ha1 : a ≤ 9223372036854775807) (b : Int) (hb0 : -9223372036854775808 ≤ b) (hb1' : b ≤ 9223372036854775807) (d : Int) (hd0 : -2147483648 ≤ d) (hd1 : d ≤ 2147483647) :
    Calls Try.prog 6 #[.slice p n c, .int .i64 a, .int .i64 b, .int .i32 d] w fun e w' => e = .returned (.bool true) ∧ Below w.heap.size w w' := by
  have HN : Hid (zs.length = n) := hn
  clear hn
  by_cases c1 : 80 < n
  · have d1 : decide ((80 : Int) < (n : Int)) = true := by simp; omega
    go_enter Try.func6, Try.ntmps6
    go_wp2_with (go_at_call 9; refine (begun9 _).mono ?_; rintro e w1 ⟨rfl, hb1⟩)
    go_ret
    exact ⟨rfl, hb1⟩
  · have d1 : decide ((80 : Int) < (n : Int)) = false := by simp; omega
    have h1000 : n ≤ 1000 := by omega
    go_enter Try.func6, Try.ntmps6
    go_wp2_with (first
      | (go_at_call 9; refine (begun9 _).mono ?_; rintro e w1 ⟨rfl, hb1⟩; have hp1 := hp.below hb1)
      | (go_at_call 10; (with_reducible (refine (made_any p c zs _ n HN.out h1000 hp1 hbz).mono ?_)); rintro e w2 ⟨rfl, pk2, hb2, hs2⟩; have hB2 := bel_call hb1 (Nat.le_refl _) hb2)
      | (go_at_call 11; (with_reducible (refine (code_z w1.heap.size _ pk2).mono ?_)); (rintro e w3 ⟨p3, n3, c3, l3, rfl, ⟨o3, a3, e3, pk3, kp3⟩, g3, g3', l0, hl0, hG⟩); have hB3 := hB2.trans (kp3.below (B := w.heap.size) (by have := hb1.size; omega) (by have := hB2.size; omega))
         have d3 : decide ((24 : Int) ≤ (n3 : Int)) = false := decide_eq_false (by omega)
         have HE : Hid (l3.length = n3) := e3
         have HL0 : Hid (l3 = l0 ++ [E0]) := hl0
         have HG : Hid (Gd l0) := hG
         have hok3 : okB l3 = true := by rw [hl0]; exact gd_may hG (by have := congrArg List.length hl0; simp at this; omega)
         have hxm : plB (1, 0, 0, d) = true := pl_of (by unfold mayP; simp; omega) (by simp) (by simp)
         have hokm : okB ([(1, 0, 0, d)] ++ l3) = true := by
           have e : [(1, 0, 0, d)] ++ l3 = ([(1, 0, 0, d)] ++ l0) ++ [E0] := by rw [hl0, List.append_assoc]
           rw [e]
           exact gd_may (gd_app (gd_of0 (gd0_plain hxm)) hG) (by have := congrArg List.length hl0; simp at this; simp; omega)
         obtain ⟨N, v, hEn, _⟩ := ends_ex hok3 (x := d) (by omega) (by omega)
         have HX : Hid (okB l3 = true ∧ okB ([(1, 0, 0, d)] ++ l3) = true ∧ EndsAt l3 d N v ∧ ∀ t, EndsAt ([(1, 0, 0, d)] ++ l3) t (N + 1) v) := ⟨hok3, hokm, hEn, fun t => ends_up (prg_of hok3) (by omega) (by omega) (pl_may hxm) hEn⟩
         clear e3 hl0 hG a3 hok3 hokm hEn hxm)
      | (at_builtin; (refine wpList_app tIn _ rfl _ _ rfl w3.heap.size (some ⟨w3.heap.size, 0, none⟩) 1 [(1, 0, 0, d)] 1 rfl rfl own_one p3 c3 l3 n3 HE.out rfl (own_rd (own_below o3 ((Below.refl _ _).alloc (Nat.le_refl _) _))) (by omega) (by simp) (1 + n3) rfl ?_); intro p5 c5 w5 ho5 hb5 hst5
         have HE5 : Hid (([(1, 0, 0, d)] ++ l3).length = 1 + n3) := by show _ = _; rw [List.length_append, HE.out]; rfl
         have hB5 : Below w3.heap.size w3 w5 := ((Below.refl _ _).alloc (Nat.le_refl _) _).trans hb5
         have hr5 := own_rd ho5
         have hr3 := own_rd (own_below o3 hB5))
      | (go_at_call 13; (with_reducible (refine (prun_yes p5 c5 _ _ hr5 (1 + n3) HE5.out (by omega) HX.out.2.1 a ha0 ha1 (N + 1) v (HX.out.2.2.2 a)).mono ?_)); rintro e w6 ⟨rfl, b6⟩)
      | (go_at_call 13; (with_reducible (refine (prun_yes p5 c5 _ _ (hr5.below b6) (1 + n3) HE5.out (by omega) HX.out.2.1 b hb0 hb1' (N + 1) v (HX.out.2.2.2 b)).mono ?_)); rintro e w7 ⟨rfl, b7⟩; have B7 := b6.trans (b7.mono b6.size))
      | (go_at_call 13; (with_reducible (refine (prun_yes p3 c3 _ _ (hr3.below B7) n3 HE.out (by omega) HX.out.1 d (by omega) (by omega) N v HX.out.2.2.1).mono ?_)); rintro e w8 ⟨rfl, b8⟩; have B8 := B7.trans (b8.mono B7.size)))
    go_ret
    have z3 := hB3.size
    have z5 := hB5.size
    exact ⟨rfl, (hB3.trans (hB5.mono z3)).trans (B8.mono (by omega))⟩
end Go.Proofs.Ytboffjabffcddaa
