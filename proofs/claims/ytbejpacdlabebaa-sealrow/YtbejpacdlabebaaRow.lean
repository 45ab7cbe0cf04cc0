/-
  The law SealRow, walked.
-/
import Derived.Test.YtbejpacdlabebaaTurned
namespace Go.Proofs.Ytbejpacdlabebaa
open Go.ChangeShapes Go.WideShapes Go.ChangeAt Go.RowKit
attribute [local go_sem ↓] Go.wp_at_zero Go.wp_at_succ

theorem join_u32 (s A : Nat) (hs : s ≤ 32) (hA : A < 4294967296) : bits .or .u32 ((A : Int) * 2 ^ s % 4294967296) ((A : Int) / 2 ^ (32 - s)) = ((A % 2 ^ (32 - s) * 2 ^ s + A / 2 ^ (32 - s) : Nat) : Int) := by
  have hp : 2 ^ (32 - s) * 2 ^ s = 4294967296 := by rw [← Nat.pow_add, show 32 - s + s = 32 by omega]
  have h0 : 0 < 2 ^ (32 - s) := Nat.two_pow_pos _
  have h1 : A % 2 ^ (32 - s) < 2 ^ (32 - s) := Nat.mod_lt _ h0
  have h2 : A / 2 ^ (32 - s) < 2 ^ s := Nat.div_lt_of_lt_mul (by rw [hp]; exact hA)
  have e : (A : Int) * 2 ^ s % 4294967296 = ((A % 2 ^ (32 - s) * 2 ^ s : Nat) : Int) := by
    rw [← Nat.mul_mod_mul_right, hp]; simp
  have e2 : (A : Int) / 2 ^ (32 - s) = ((A / 2 ^ (32 - s) : Nat) : Int) := by simp
  have h3 : A % 2 ^ (32 - s) * 2 ^ s < 4294967296 := by rw [← hp]; exact Nat.mul_lt_mul_of_pos_right h1 (Nat.two_pow_pos _)
  have h4 : A / 2 ^ (32 - s) ≤ A := Nat.div_le_self _ _
  rw [e, e2, u32_or_nat _ _ h3 (by omega), nat_join s _ _ (Nat.mul_mod_left _ _) h2]
theorem rots_five (m : Nat) {A : Nat} (hA : A < 4294967296) : rots (m + 4) A = rots m A := by
  have : rots (m + 4) A = rots m (rots 4 A) := rfl
  rw [this, (rots_eq hA).2.2.2]
theorem rot_shift (k A : Nat) (hk : k ≤ 8) (hA : A < 4294967296) : ((rots k A : Int) == bits BinOp.or IntKind.u32 (↑A * 2 ^ (8 * k % 32) % 4294967296) (↑A / 2 ^ (32 - 8 * k % 32))) = true := by
  rw [join_u32 (8 * k % 32) A (by omega) hA]
  obtain ⟨e1, e2, e3, e4⟩ := rots_eq hA
  have hc : k = 0 ∨ k = 1 ∨ k = 2 ∨ k = 3 ∨ k = 4 ∨ k = 5 ∨ k = 6 ∨ k = 7 ∨ k = 8 := by omega
  rw [beq_iff_eq]
  rcases hc with rfl | rfl | rfl | rfl | rfl | rfl | rfl | rfl | rfl
  · show (A : Int) = ((A % 4294967296 * 1 + A / 4294967296 : Nat) : Int)
    omega
  · rw [e1]
  · rw [e2]
  · rw [e3]
  · rw [e4]
    show (A : Int) = ((A % 4294967296 * 1 + A / 4294967296 : Nat) : Int)
    omega
  · rw [rots_five 1 hA, e1]
  · rw [rots_five 2 hA, e2]
  · rw [rots_five 3 hA, e3]
  · rw [rots_five 4 hA, e4]
    show (A : Int) = ((A % 4294967296 * 1 + A / 4294967296 : Nat) : Int)
    omega
theorem ret_b {a b : Bool} (h : a = b) : Ending.returned (.bool a) = .returned (.bool b) := by rw [h]
set_option maxHeartbeats 1000000 in
theorem row_walk (p : Option Addr) (c : Nat) (l : List Int) (w : World) (hr : Rd eI w p c l) (n : Nat) (hn : l.length = n) (hm : n ≤ 9223372036854775807) (a : Int) (ha0 : 0 ≤ a) (ha1 : a ≤ 255) :
    Calls Try.prog 6 #[.slice p n c, .int .u8 a] w fun e w' => e = .returned (.bool true) ∧ Below w.heap.size w w' := by
  have HN : Hid (l.length = n) := hn
  clear hn
  by_cases h : 30 < n
  · have d1 : decide ((30 : Int) < (n : Int)) = true := by simp; omega
    go_enter Try.func6, Try.ntmps6
    go_wp2_with (go_at_call 7; refine (begun_any _).mono ?_; rintro e w1 ⟨rfl, b1⟩)
    go_ret
    exact ⟨rfl, b1⟩
  have d1 : decide ((30 : Int) < (n : Int)) = false := by simp; omega
  obtain ⟨N, hN⟩ : ∃ N : Nat, a % 9 = N := ⟨(a % 9).toNat, by omega⟩
  have hN8 : N ≤ 8 := by omega
  go_enter Try.func6, Try.ntmps6
  go_wp2_with (first
    | (go_at_call 7; refine (begun_any _).mono ?_; rintro e w1 ⟨rfl, b1⟩; have hr1 := hr.below b1; have z1 := b1.size)
    | (at_builtin; refine wpList_app tI _ rfl _ _ rfl _ _ _ [] 0 rfl rfl own_none _ _ l n HN.out rfl (hr1.below ((Below.refl _ _).alloc (Nat.le_refl _) _)) (by omega) (by simp) n (by omega) ?_; intro p2 c2 w2 o2 b2 st2
       rw [List.nil_append] at o2
       have hB2 : Below w1.heap.size w1 w2 := ((Below.refl _ _).alloc (Nat.le_refl _) _).trans (b2.mono (by simp))
       clear b2 st2))
  go_loopw [5, 6] (fun m i wr => ∃ (k : Nat) (q : Option Addr) (d : Nat), k ≤ N ∧ i = .int .i64 (k : Int) ∧ m = .slice q ((n + k : Nat) : Nat) d ∧ Own eI wr w1.heap.size 2 q d (l ++ List.replicate k 0) ∧ Below w1.heap.size w1 wr) (fun _ i _ => (N - intOf i).toNat)
  case atStart => exact ⟨0, p2, c2, by omega, rfl, rfl, by simpa using o2, hB2⟩
  case round =>
    obtain ⟨k, q, d, hk, rfl, rfl, hown, hbel⟩ := hrel
    have zr := hbel.size
    by_cases hlt : k < N
    · have hlen : (l ++ List.replicate k 0).length = n + k := by rw [List.length_append, List.length_replicate, HN.out]
      have HL : Hid ((l ++ List.replicate k 0).length = n + k) := hlen
      clear hlen
      go_wp2_with (first
        | (at_builtin; refine wpList_app tI _ rfl _ _ rfl w1.heap.size q d (l ++ List.replicate k 0) (n + k) HL.out rfl (own_below hown ((Below.refl _ _).alloc (Nat.le_refl _) _)) _ _ [0] 1 rfl rfl (rd_block (heap_alloc_new _ _) 1 rfl rfl) (by omega) (by simp; omega) (n + k + 1) rfl ?_; intro p3 c3 w3 o3 b3 st3))
      go_roundw
      case rel =>
        refine ⟨k + 1, p3, c3, by omega, by go_num, rfl, ?_, (hbel.alloc zr _).trans b3⟩
        rw [List.replicate_succ', ← List.append_assoc]
        exact o3
      case measure => simp [intOf]; omega
    · obtain rfl : k = N := by omega
      have hlen : (l ++ List.replicate k 0).length = n + k := by rw [List.length_append, List.length_replicate, HN.out]
      have HL : Hid ((l ++ List.replicate k 0).length = n + k) := hlen
      have hrd := own_rd hown
      have hr2 := hr1.below hbel
      obtain ⟨A, hA⟩ : ∃ A, sumv seed l = A := ⟨_, rfl⟩
      have hA1 : A < 4294967296 := hA ▸ sumv_lt l seed_lt
      have hZ : sumv seed (l ++ List.replicate k 0) = rots k A := by rw [sumv_append, hA, sumv_zeros k hA1]
      have HA : Hid (sumv seed l = A) := hA
      have HZ : Hid (sumv seed (l ++ List.replicate k 0) = rots k A) := hZ
      clear hA hZ hlen hown
      go_wp2_with (first
        | (go_at_call 8; (with_reducible (refine (sum_any _ _ _ _ hr2 n HN.out hm A HA.out).mono ?_)); (rintro e w' ⟨rfl, rfl⟩))
        | (go_at_call 8; (with_reducible (refine (sum_any _ _ _ _ hrd (n + k) HL.out (by omega) (rots k A) HZ.out).mono ?_)); (rintro e w' ⟨rfl, rfl⟩)))
      go_quiet (fail)
      go_wp2
      go_ret
      exact ⟨ret_b (rot_shift k A hN8 hA1), b1.trans ((bel_draws hbel nq).mono z1)⟩
end Go.Proofs.Ytbejpacdlabebaa
