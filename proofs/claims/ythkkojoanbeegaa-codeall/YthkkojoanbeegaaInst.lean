/-
  The instruction that seven bytes are.
-/
import Derived.Test.YthkkojoanbeegaaBytes
namespace Go.Proofs.Ythkkojoanbeegaa
open Go.ChangeShapes Go.WideShapes Go.ChangeAt Go.RowKit
attribute [local go_sem ↓] Go.wp_at_zero Go.wp_at_succ

theorem i64_in (n : Int) (h0 : -9223372036854775808 ≤ n) (h1 : n ≤ 9223372036854775807) : IntKind.i64.wrap n = n := by rw [IntKind.wrap_i64]; omega

set_option maxHeartbeats 8000000 in
theorem inst_any (p : Option Addr) (c : Nat) (l : List Int) (w : World) (hr : Rd eBy w p c l) (n : Nat) (hn : l.length = n) (h7 : n = 7) (hb : ∀ x ∈ l, 0 ≤ x ∧ x ≤ 255) :
    Calls Try.prog 23 #[.slice p n c] w fun e w' => e = .returned (.agg #[.int .i64 (decI l).1, .int .i64 (decI l).2.1, .int .i64 (decI l).2.2.1, .int .i64 (decI l).2.2.2]) ∧ Below w.heap.size w w' := by
  have hcap := hr.cap
  obtain ⟨b, o, rfl, hbz, hc⟩ := hr.bytes (by omega)
  have c0 := hc 0 (by omega)
  rw [Nat.add_zero] at c0
  have c1 := hc 1 (by omega)
  have c2 := hc 2 (by omega)
  have g : ∀ i, i < l.length → 0 ≤ l.getD i 0 ∧ l.getD i 0 ≤ 255 := fun i hi => by
    rw [List.getD_eq_getElem?_getD, List.getElem?_eq_getElem hi]
    exact hb _ (List.getElem_mem hi)
  obtain ⟨a0, a1⟩ := g 0 (by omega)
  obtain ⟨b0, b1⟩ := g 1 (by omega)
  obtain ⟨d0, d1⟩ := g 2 (by omega)
  have hr3 : Rd eBy w (some ⟨b, o + 3, none⟩) (c - 3) (l.drop 3) := by
    have := hr.drop 3 (by omega)
    rw [if_neg (by omega)] at this
    simpa [Addr.add, eBy] using this
  have hw := fun w' (hb' : Below w.heap.size w w') => word_any (some ⟨b, o + 3, none⟩) (c - 3) (l.drop 3) w' (hr3.below hb') 4 (by simp; omega) (by omega) (fun x hx => hb x (List.mem_of_mem_drop hx))
  have e3 : (l.drop 3).getD 0 0 = l.getD 3 0 := by simp [List.getD_eq_getElem?_getD, List.getElem?_drop]
  have e4 : (l.drop 3).getD 1 0 = l.getD 4 0 := by simp [List.getD_eq_getElem?_getD, List.getElem?_drop]
  have e5 : (l.drop 3).getD 2 0 = l.getD 5 0 := by simp [List.getD_eq_getElem?_getD, List.getElem?_drop]
  have e6 : (l.drop 3).getD 3 0 = l.getD 6 0 := by simp [List.getD_eq_getElem?_getD, List.getElem?_drop]
  rw [e3, e4, e5, e6] at hw
  clear e3 e4 e5 e6
  unfold decI
  simp only
  have hs : -2147483648 ≤ s32 (u4 (l.getD 3 0) (l.getD 4 0) (l.getD 5 0) (l.getD 6 0)) ∧ s32 (u4 (l.getD 3 0) (l.getD 4 0) (l.getD 5 0) (l.getD 6 0)) ≤ 2147483647 := by
    have := g 3 (by omega)
    have := g 4 (by omega)
    have := g 5 (by omega)
    have := g 6 (by omega)
    exact s32_bd _ (by unfold u4; omega) (by unfold u4; omega)
  obtain ⟨s0, s1⟩ := hs
  generalize s32 (u4 (l.getD 3 0) (l.getD 4 0) (l.getD 5 0) (l.getD 6 0)) = sn at *
  generalize l.getD 0 0 = x0 at *
  generalize l.getD 1 0 = x1 at *
  generalize l.getD 2 0 = x2 at *
  clear g hc hr hb
  have hlc : 7 ≤ c := by omega
  clear hn hcap
  subst h7
  have q1 : ¬ (c = 3) := by omega
  have q3 : (7 : Int) ≤ c := by omega
  go_enter Try.func23, Try.ntmps23
  go_wp2
  have hne : ¬ (b = w.heap.size) := by omega
  have hne' : ¬ (w.heap.size = b) := by omega
  go_region_held3 (fun w' => w'.cell? ⟨b, o, none⟩ = some (.int .u8 x0) ∧ w'.cell? ⟨b, o + 1, none⟩ = some (.int .u8 x1) ∧ w'.cell? ⟨b, o + 2, none⟩ = some (.int .u8 x2))
    (go_keep)
    ((go_at_call 31; with_reducible (refine (hw _ (((Below.refl _ _).alloc (Nat.le_refl _) _).drew)).mono ?_); rintro e w1 ⟨rfl, k1, rfl⟩))
  all_goals
    go_wp2
    refine bodyPost_ret (v := .agg #[.int .i64 x0, .int .i64 x1, .int .i64 x2, .int .i64 sn]) (by simp [results, Try.results23, go_sem, i64_in x0 (by omega) (by omega), i64_in x1 (by omega) (by omega), i64_in x2 (by omega) (by omega), i64_in sn (by omega) (by omega)]) rfl ⟨rfl, ?_⟩
    repeat (first | exact Below.refl _ _ | exact ((Below.refl _ _).alloc (Nat.le_refl _) _) | exact (((Below.refl _ _).alloc (Nat.le_refl _) _).drew) | refine Below.setCell ?_ (by simp) _ | refine bel_draws ?_ _ | refine Below.drew ?_)
end Go.Proofs.Ythkkojoanbeegaa
