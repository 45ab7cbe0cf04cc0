/-
  The first place that locks a semaphore, and how long it is held at most.
-/
import Derived.Test.YteklpceikddggaaBmap
import Derived.Test.YteklpceikddggaaHand
namespace Go.Proofs.Yteklpceikddggaa
open Go.ChangeShapes Go.WideShapes Go.ChangeAt Go.RowKit
attribute [local go_sem ↓] Go.wp_at_zero Go.wp_at_succ

set_option maxHeartbeats 2000000 in
theorem first_any (b : Nat) (SP : List Sn) (n : Nat) (s C : Int) (w : World) (h : IsH w b (hA SP n)) (hn : n ≤ 1000) (hC : IsCeil SP n s C) :
    Calls Try.prog 20 #[.map (some b), .int .i64 (n : Int), .int .i64 s] w fun e w' => e = .returned (.int .i64 C) ∧ Below w.heap.size w w' := by
  go_enter Try.func20, Try.ntmps20
  go_wp2
  go_loop [11] (fun i => ∃ k : Nat, k ≤ n ∧ i = .int .i64 k ∧ Hid (∀ j, j < k → isS (SP.getD j []) s = false)) (fun i => n - (intOf i).toNat)
  case atStart => exact ⟨0, Nat.zero_le _, rfl, fun j hj => by omega⟩
  case round =>
    obtain ⟨k, hk, rfl, H0⟩ := hrel
    by_cases hlt : k < n
    · have hkI : (k : Int) < (n : Int) := by omega
      have dk : decide ((k : Int) < (n : Int)) = true := decide_eq_true hkI
      have hl := look_at (SP := SP) hlt s
      cases hs : isS (SP.getD k []) s with
      | true =>
        rw [hs] at hl
        have e1 : (lookE (hA SP n) [s, (k : Int)]).getD 0 = mxS s 0 (SP.getD k []) := by rw [hl]; rfl
        have e2 : (lookE (hA SP n) [s, (k : Int)]).isSome = true := by rw [hl]; rfl
        obtain rfl := hC.at hlt hs H0.out
        clear hl hs
        go_wp2_with (refine wpList_lookH rfl (.tmp 15) (.tmp 18) true rfl b _ rfl h s (k : Int) rfl _ true e1 e2 ?_)
        go_ret
        exact ⟨rfl, Below.refl _ _⟩
      | false =>
        rw [hs] at hl
        have e1 : (lookE (hA SP n) [s, (k : Int)]).getD 0 = 0 := by rw [hl]; rfl
        have e2 : (lookE (hA SP n) [s, (k : Int)]).isSome = false := by rw [hl]; rfl
        have H1 : Hid (∀ j, j < k + 1 → isS (SP.getD j []) s = false) := fun j hj => by
          by_cases e : j = k
          · rw [e]; exact hs
          · exact H0.out j (by omega)
        clear hl hs H0
        go_wp2_with (refine wpList_lookH rfl (.tmp 15) (.tmp 18) true rfl b _ rfl h s (k : Int) rfl _ false e1 e2 ?_)
        go_round
        case rel => exact ⟨k + 1, by omega, by go_num, H1⟩
        case measure => simp [intOf]; omega
    · have dk : decide ((k : Int) < (n : Int)) = false := decide_eq_false (by omega)
      obtain rfl := hC.none (fun j hj => H0.out j (by omega))
      go_wp2
      go_ret
      exact ⟨rfl, Below.refl _ _⟩
theorem max_is (a b : Int) : (if a < b then b else a) = max a b := by omega
set_option maxHeartbeats 2000000 in
theorem longest_any (b : Nat) (SP : List Sn) (n : Nat) (s i A : Int) (w : World) (h : IsH w b (hA SP n)) (hn : n ≤ 1000) (hA9 : lngN SP s i n = A) :
    Calls Try.prog 21 #[.map (some b), .int .i64 (n : Int), .int .i64 s, .int .i64 i] w fun e w' => e = .returned (.int .i64 A) ∧ Below w.heap.size w w' := by
  have HA9 : Hid (lngN SP s i n = A) := hA9
  clear hA9
  go_enter Try.func21, Try.ntmps21
  go_wp2
  go_loop [9, 12] (fun t i9 => ∃ (k : Nat) (L : Int), k ≤ n ∧ i9 = .int .i64 k ∧ t = .int .i64 L ∧ Hid (lngN SP s i k = L)) (fun _ i9 => n - (intOf i9).toNat)
  case atStart => exact ⟨0, 0, Nat.zero_le _, rfl, rfl, rfl⟩
  case round =>
    obtain ⟨k, L, hk, rfl, rfl, HL⟩ := hrel
    by_cases hlt : k < n
    · have hkI : (k : Int) < (n : Int) := by omega
      have dk : decide ((k : Int) < (n : Int)) = true := decide_eq_true hkI
      by_cases hi : (k : Int) = i
      · have HL2 : Hid (lngN SP s i (k + 1) = L) := by show _ = _; rw [lngN, if_pos hi]; exact HL.out
        have x1 : ((k : Int) == i) = true := by simpa using hi
        have x2 : ((k : Int) != i) = false := by simpa using hi
        clear hi HL
        go_wp2
        go_round
        case rel => exact ⟨k + 1, L, by omega, by go_num, rfl, HL2⟩
        case measure => simp [intOf]; omega
      · have hl := look_at (SP := SP) hlt s
        obtain ⟨V, hV⟩ : ∃ V, (lookE (hA SP n) [s, (k : Int)]).getD 0 = V := ⟨_, rfl⟩
        have hVm : V = mxS s 0 (SP.getD k []) ∨ (V = 0 ∧ isS (SP.getD k []) s = false) := by
          rw [← hV, hl]
          cases isS (SP.getD k []) s with
          | true => exact .inl rfl
          | false => exact .inr ⟨rfl, rfl⟩
        have hM : mxS s 0 (SP.getD k []) = V := by
          rcases hVm with h | ⟨h, h2⟩
          · exact h.symm
          · have hz := (mxS_le s (SP.getD k []) 0 0).2 ⟨Int.le_refl _, fun x hx hxs => by
              simp [isS] at h2
              exact absurd hxs (h2 x.1 x.2 hx)⟩
            have hz2 := ((mxS_le s (SP.getD k []) 0 _).1 (Int.le_refl _)).1
            omega
        have HL2 : Hid (lngN SP s i (k + 1) = if L < V then V else L) := by show _ = _; rw [lngN, if_neg hi, HL.out, hM, max_is]
        have x1 : ((k : Int) == i) = false := by simpa using hi
        have x2 : ((k : Int) != i) = true := by simpa using hi
        clear hi HL hl hVm hM
        go_wp2_with (refine wpList_lookH rfl (.tmp 19) (.tmp 22) false rfl b _ rfl h s (k : Int) rfl V _ hV rfl ?_)
        all_goals
          go_round
          case rel => first | exact ⟨k + 1, _, by omega, by go_num, rfl, HL2⟩ | exact ⟨k + 1, V, by omega, by go_num, rfl, by show _ = _; rw [HL2.out]; rw [if_pos (by assumption)]⟩ | exact ⟨k + 1, L, by omega, by go_num, rfl, by show _ = _; rw [HL2.out]; rw [if_neg (by assumption)]⟩
          case measure => simp [intOf]; omega
    · obtain rfl : k = n := by omega
      obtain rfl := HL.out.symm.trans HA9.out
      have dk : decide ((k : Int) < (k : Int)) = false := by simp
      go_wp2
      go_ret
      exact ⟨rfl, Below.refl _ _⟩
end Go.Proofs.Yteklpceikddggaa
