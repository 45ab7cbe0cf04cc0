/-
  The law CodeBack, walked.
-/
import Derived.Test.YthkkojoanbeegaaUse
import Derived.Test.YthkkojoanbeegaaWild
import Derived.Laws.StructEq
namespace Go.Proofs.Ythkkojoanbeegaa
open Go.ChangeShapes Go.WideShapes Go.ChangeAt Go.RowKit
attribute [local go_sem ↓] Go.wp_at_zero Go.wp_at_succ

theorem take_bd {l : List Int} (h : ∀ x ∈ l, 0 ≤ x ∧ x ≤ 255) (k : Nat) : ∀ x ∈ l.take k, 0 ≤ x ∧ x ≤ 255 := fun x hx => h x (List.mem_of_mem_take hx)
theorem snoc_bd {l : List Int} (h : ∀ x ∈ l, 0 ≤ x ∧ x ≤ 255) {y : Int} (h0 : 0 ≤ y) (h1 : y ≤ 255) : ∀ x ∈ l ++ [y], 0 ≤ x ∧ x ≤ 255 := fun x hx => by
  rcases List.mem_append.1 hx with h' | h'
  · exact h x h'
  · simp at h'; subst h'; exact ⟨h0, h1⟩

set_option maxHeartbeats 1000000 in
theorem back_walk (p : Option Addr) (c : Nat) (n : Nat) (zs : List Int) (x y : Int) (w : World) (hp : Rd eBy w p c zs) (hn : zs.length = n) (hbz : ∀ x ∈ zs, 0 ≤ x ∧ x ≤ 255) (hm1 : n ≤ 9223372036854775807) (x0 : 0 ≤ x) (x1 : x ≤ 255) (y0 : 0 ≤ y) (y1 : y ≤ 255) :
    Calls Try.prog 4 #[.slice p n c, .int .u8 x, .int .u8 y] w fun e w' => e = .returned (.bool true) ∧ Below w.heap.size w w' := by
  have HN : Hid (zs.length = n) := hn
  clear hn
  by_cases c1 : 80 < n
  · have d1 : decide ((80 : Int) < (n : Int)) = true := by simp; omega
    go_enter Try.func4, Try.ntmps4
    go_wp2_with (go_at_call 8; refine (begun_any _).mono ?_; rintro e w1 ⟨rfl, hb1⟩)
    go_ret
    exact ⟨rfl, hb1⟩
  · have d1 : decide ((80 : Int) < (n : Int)) = false := by simp; omega
    have h1000 : n ≤ 1000 := by omega
    go_enter Try.func4, Try.ntmps4
    go_wp2_with (first
      | (go_at_call 8; refine (begun_any _).mono ?_; rintro e w1 ⟨rfl, hb1⟩; have hp1 := hp.below hb1)
      | (go_at_call 9; (with_reducible (refine (made_any p c zs _ n HN.out h1000 hp1 hbz).mono ?_)); rintro e w2 ⟨rfl, pk2, hb2, hs2⟩; have hB2 := bel_call hb1 (Nat.le_refl _) hb2)
      | (go_at_call 11; (with_reducible (refine (wild_any w1.heap.size _ pk2).mono ?_)); (rintro e w3 ⟨p3, n3, c3, l3, rfl, ⟨o3, a3, e3, pk3, kp3⟩, g3, g3'⟩); have hB3 := hB2.trans (kp3.below (B := w.heap.size) (by have := hb1.size; omega) (by have := hB2.size; omega)))
      | (go_at_call 16
         obtain ⟨M, hM⟩ : ∃ M, 1 + 7 * n3 = M := ⟨_, rfl⟩
         have hlen : (putL l3).length = M := by rw [← hM, ← e3]; exact putL_len (by omega) a3
         obtain ⟨X, hX⟩ : ∃ X, putL l3 = X := ⟨_, rfl⟩
         have hbd := putL_bd l3
         obtain ⟨hTk, hTt⟩ := put_take (l := l3) (by omega) a3
         have hcut := fun k hk => put_cut (l := l3) (by omega) a3 k hk
         have hmore := put_more (l := l3) (by omega) a3 y
         rw [hX] at hbd hTk hTt hlen hcut hmore
         (with_reducible (refine (put_c p3 c3 l3 _ n3 X M e3 hX hlen (own_rd o3) (by omega)).mono ?_)); (rintro e w4 ⟨p4, c4, rfl, o4, b4⟩)
         have hB4 := bel_call hB3 (Nat.le_refl _) b4
         have o34 := own_below o3 b4
         clear o3 kp3 pk3 hB2 hB3 pk2 hb1 hb2 hs2
         clear hp hp1
         have dM : ((M : Int) == 1 + 7 * (n3 : Int)) = true := by simp; omega
         have hMb : M ≤ 85 := by omega
         have hM1 : 1 ≤ M := by omega
         obtain ⟨k, hk⟩ : ∃ k : Nat, x % (M : Int) = k := ⟨(x % (M : Int)).toNat, by have := Int.emod_nonneg x (show (M : Int) ≠ 0 by omega); omega⟩
         have hkM : k < M := by have := Int.emod_lt_of_pos x (show 0 < (M : Int) by omega); omega
         have hcutk := hcut k (by omega)
         have q1 := take_c p4 c4 X w4 M l3 n3 true hlen hTt e3 hTk (own_rd o4) (by omega) hbd
         have q2 : ∀ w', Below w4.heap.size w4 w' → Calls Try.prog 12 #[.slice p4 k c4] w' fun e w'' => ∃ p' c', e = .returned (.tuple #[.slice p' 0 c', .bool false]) ∧ Own eIn w'' w'.heap.size 23 p' c' [] ∧ Below w'.heap.size w' w'' := fun w' hb => take_c p4 c4 (X.take k) w' k [] 0 false (by simp; omega) (takeL_no hcutk) rfl hcutk ((own_rd (own_below o4 hb)).take k) (by omega) (take_bd hbd k)
         have q3 : ∀ p' c' w', Rd eBy w' p' c' (X ++ [y]) → Calls Try.prog 12 #[.slice p' (M + 1) c'] w' fun e w'' => ∃ p' c', e = .returned (.tuple #[.slice p' 0 c', .bool false]) ∧ Own eIn w'' w'.heap.size 23 p' c' [] ∧ Below w'.heap.size w' w'' := fun p' c' w' hr => take_c p' c' (X ++ [y]) w' (M + 1) [] 0 false (by simp [hlen]) (takeL_no hmore) rfl hmore hr (by omega) (snoc_bd hbd y0 y1)
         have HL : Hid (X.length = M) := hlen
         have HE : Hid (l3.length = n3) := e3
         have hcap := own_cap o4
         rw [hlen] at hcap
         clear hcut hmore hcutk hTk hTt hlen hX hbd e3 hM)
      | (go_at_call 12; (with_reducible (refine q1.mono ?_)); (rintro e w5 ⟨p5, c5, rfl, o5, b5⟩); have o45 := own_below o4 b5; have o35 := own_below o34 b5)
      | (go_at_call 12; (with_reducible (refine (q2 _ b5).mono ?_)); (rintro e w6 ⟨p6, c6, rfl, o6, b6⟩); have o46 := own_below o45 b6; have o36 := own_below o35 b6; have o56 := own_below o5 b6; have B6 := bel_call b5 (Nat.le_refl _) b6)
      | (at_builtin; refine wpList_app tBy _ rfl _ _ rfl w6.heap.size _ _ [] 0 rfl rfl (own_block (Nat.le_refl _) rfl 0 rfl (by decide)) p4 c4 X M HL.out rfl (own_rd (own_below o46 ((Below.refl _ _).alloc (Nat.le_refl _) _))) (by omega) (by simp) M (by omega) ?_; intro p7 c7 w7 o7 b7 st7; have hz7 := b7.size; simp at hz7)
      | (at_builtin; refine wpList_app tBy _ rfl _ _ rfl w6.heap.size p7 c7 X M HL.out rfl (own_below o7 ((Below.refl _ _).alloc (Nat.le_refl _) _)) _ _ [y] 1 rfl rfl (rd_block (heap_at (by first | rfl | simp)) 1 rfl rfl) (by omega) (by simp; omega) (M + 1) rfl ?_; intro p8 c8 w8 o8 b8 st8; have B8 : Below w6.heap.size w6 w8 := (((Below.refl _ _).alloc (Nat.le_refl _) _).trans b7).trans (((Below.refl _ _).alloc (by omega) _).trans b8))
      | (go_at_call 12; (with_reducible (refine (q3 _ _ _ (own_rd o8)).mono ?_)); (rintro e w9 ⟨p9, c9, rfl, o9, b9⟩); have B9 := bel_call B8 (Nat.le_refl _) b9; have o39 := own_below o36 B9; have o59 := own_below o56 B9)
      | (go_at_call 18; (refine (same_any p5 c5 l3 p3 c3 l3 _ (own_rd o59) (own_rd o39) n3 n3 HE.out HE.out (by omega) (by omega)).mono ?_); (rintro e w10 ⟨rfl, b10⟩); have hs : sameB l3 l3 = true := decide_eq_true rfl))
    go_ret
    exact ⟨rfl, bel_call (bel_call (bel_call hB4 (Nat.le_refl _) B6) (Nat.le_refl _) B9) (Nat.le_refl _) b10⟩
end Go.Proofs.Ythkkojoanbeegaa
