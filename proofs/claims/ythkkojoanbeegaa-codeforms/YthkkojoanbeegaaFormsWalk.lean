/-
  The law CodeForms, walked.
-/
import Derived.Test.YthkkojoanbeegaaUse
namespace Go.Proofs.Ythkkojoanbeegaa
open Go.ChangeShapes Go.WideShapes Go.ChangeAt Go.RowKit
attribute [local go_sem ↓] Go.wp_at_zero Go.wp_at_succ

def goodL : List In := [(0, 0, 0, 0), (1, 7, 0, -2147483648), (1, 0, 0, 2147483647), (2, 7, 7, 0), (5, 7, 0, -63), (5, 0, 0, 63), (6, 0, 0, 1), (6, 0, 0, 64), (7, 7, 0, 24), (8, 0, 24, 20), (9, 3, 0, 0), (10, 0, 0, 0), (11, 0, 0, 0)]
def badL : List In := [(0, 1, 0, 0), (0, 0, 0, 1), (1, 8, 0, 0), (1, -1, 0, 0), (1, 0, 1, 0), (1, 0, 0, 2147483648), (2, 0, 8, 0), (3, 0, 0, 1), (5, 0, 0, 64), (5, 0, 0, -64), (6, 0, 0, 0), (6, 0, 0, 65), (7, 0, 0, 0), (7, 0, 0, 25), (7, 0, 1, 1), (8, 0, 0, 1), (8, 0, 1, 0), (8, 0, 1, 21), (8, 1, 1, 1), (9, 4, 0, 0), (9, 0, 1, 0), (11, 1, 0, 0), (12, 0, 0, 0), (-1, 0, 0, 0)]
theorem good_all : ∀ x ∈ goodL, mayB x = true := by decide
theorem bad_all : ∀ x ∈ badL, mayB x = false := by decide
theorem put_one {x : In} (h : mayB x = true) : (putL [x]).length = 8 := putL_len (l := [x]) (by simp) (by simp [h])
theorem put_none {x : In} (h : mayB x = false) : (putL [x]).length = 0 := by rw [putL_bad (l := [x]) 0 (by simp) (by simpa using h)]; rfl
theorem drop_one {l : List In} (k : Nat) (h : k < l.length) : (l.drop k).take 1 = [l[k]] := by
  rw [List.drop_eq_getElem_cons h]; rfl

theorem rd_one_of {w : World} {l : List In} {G N : Nat} (h : Rd eIn w (some ⟨G, 0, none⟩) N l) (hN : l.length = N) (k : Nat) (hk : k < l.length) : Rd eIn w (some ⟨G, k * 4, none⟩) (N - k) [l[k]] := by
  have h1 := (h.drop k (Nat.le_of_lt hk)).take 1
  rw [drop_one k hk, if_neg (by omega)] at h1
  have e : Option.map (fun x : Addr => x.add (k * eIn.k)) (some ⟨G, 0, none⟩) = some ⟨G, k * 4, none⟩ := by
    show some (Addr.add ⟨G, 0, none⟩ (k * 4)) = _
    rw [add_plain, Nat.zero_add]
  rw [e] at h1
  exact h1

theorem made25 : (madeCells (Value.agg #[.int .i64 0, .int .i64 0, .int .i64 0, .int .i64 0]).cells (25 * 4)).toList = fl eIn (List.replicate 25 (0, 0, 0, 0)) := by kernel_rfl
theorem made24 : (madeCells (Value.agg #[.int .i64 0, .int .i64 0, .int .i64 0, .int .i64 0]).cells (24 * 4)).toList = fl eIn (List.replicate 24 (0, 0, 0, 0)) := by kernel_rfl
theorem make_c (n : Nat) (hn : n ≤ 1000) (z : List In) (hl : z.length = n) (h : (madeCells (Value.agg #[.int .i64 0, .int .i64 0, .int .i64 0, .int .i64 0]).cells (n * 4)).toList = fl eIn z) (w : World) :
    ∃ w', (Instr.makeSlice 24 (.int .i64 (n : Int)) (.int .i64 (n : Int))).run Try.prog w = .ok (.slice (some ⟨w.heap.size, 0, none⟩) n n) w' ∧ Own eIn w' w.heap.size 23 (some ⟨w.heap.size, 0, none⟩) n z ∧ Below w.heap.size w w' := by
  obtain ⟨i0, hi0, hz0, hz1, hz2⟩ := info_parts Try.info23
  obtain ⟨w', hr, ho, hg⟩ := run_make_full (P := Try.prog) w w.heap.size 24 23 i0 _ 4 Try.underlying24 hi0 hz0 hz1 .i64 .i64 n (by rw [hz2]; omega) (by unfold maxLen; omega) (Nat.le_refl _)
  refine ⟨w', hr, ?_, (Below.refl _ _).grown hg (Nat.le_refl _) (fun k hk => by cases hk)⟩
  unfold Own
  rw [hl, ← h]
  exact ho

set_option maxRecDepth 100000 in
set_option maxHeartbeats 4000000 in
theorem forms_walk (w : World) : Calls Try.prog 6 #[] w fun e w' => e = .returned (.bool true) ∧ Below w.heap.size w w' := by
  go_enter Try.func6, Try.ntmps6
  go_wp2_with (first
    | (go_at_call 8; refine (begun_any _).mono ?_; rintro e w1 ⟨rfl, hb1⟩))
  have hg : Rd eIn ((w1.alloc (.cells #[.int .i64 0, .int .i64 0, .int .i64 0, .int .i64 0, .int .i64 1, .int .i64 7, .int .i64 0, .int .i64 (-2147483648), .int .i64 1, .int .i64 0, .int .i64 0, .int .i64 2147483647, .int .i64 2, .int .i64 7, .int .i64 7, .int .i64 0, .int .i64 5, .int .i64 7, .int .i64 0, .int .i64 (-63), .int .i64 5, .int .i64 0, .int .i64 0, .int .i64 63, .int .i64 6, .int .i64 0, .int .i64 0, .int .i64 1, .int .i64 6, .int .i64 0, .int .i64 0, .int .i64 64, .int .i64 7, .int .i64 7, .int .i64 0, .int .i64 24, .int .i64 8, .int .i64 0, .int .i64 24, .int .i64 20, .int .i64 9, .int .i64 3, .int .i64 0, .int .i64 0, .int .i64 10, .int .i64 0, .int .i64 0, .int .i64 0, .int .i64 11, .int .i64 0, .int .i64 0, .int .i64 0] 23)).alloc (.cells #[.int .i64 0, .int .i64 1, .int .i64 0, .int .i64 0, .int .i64 0, .int .i64 0, .int .i64 0, .int .i64 1, .int .i64 1, .int .i64 8, .int .i64 0, .int .i64 0, .int .i64 1, .int .i64 (-1), .int .i64 0, .int .i64 0, .int .i64 1, .int .i64 0, .int .i64 1, .int .i64 0, .int .i64 1, .int .i64 0, .int .i64 0, .int .i64 2147483648, .int .i64 2, .int .i64 0, .int .i64 8, .int .i64 0, .int .i64 3, .int .i64 0, .int .i64 0, .int .i64 1, .int .i64 5, .int .i64 0, .int .i64 0, .int .i64 64, .int .i64 5, .int .i64 0, .int .i64 0, .int .i64 (-64), .int .i64 6, .int .i64 0, .int .i64 0, .int .i64 0, .int .i64 6, .int .i64 0, .int .i64 0, .int .i64 65, .int .i64 7, .int .i64 0, .int .i64 0, .int .i64 0, .int .i64 7, .int .i64 0, .int .i64 0, .int .i64 25, .int .i64 7, .int .i64 0, .int .i64 1, .int .i64 1, .int .i64 8, .int .i64 0, .int .i64 0, .int .i64 1, .int .i64 8, .int .i64 0, .int .i64 1, .int .i64 0, .int .i64 8, .int .i64 0, .int .i64 1, .int .i64 21, .int .i64 8, .int .i64 1, .int .i64 1, .int .i64 1, .int .i64 9, .int .i64 4, .int .i64 0, .int .i64 0, .int .i64 9, .int .i64 0, .int .i64 1, .int .i64 0, .int .i64 11, .int .i64 1, .int .i64 0, .int .i64 0, .int .i64 12, .int .i64 0, .int .i64 0, .int .i64 0, .int .i64 (-1), .int .i64 0, .int .i64 0, .int .i64 0] 23)) (some ⟨w1.heap.size, 0, none⟩) 13 goodL := (rd_block (heap_at rfl) 13 rfl rfl).below ((Below.refl _ _).alloc (Nat.le_refl _) _)
  have hb : Rd eIn ((w1.alloc (.cells #[.int .i64 0, .int .i64 0, .int .i64 0, .int .i64 0, .int .i64 1, .int .i64 7, .int .i64 0, .int .i64 (-2147483648), .int .i64 1, .int .i64 0, .int .i64 0, .int .i64 2147483647, .int .i64 2, .int .i64 7, .int .i64 7, .int .i64 0, .int .i64 5, .int .i64 7, .int .i64 0, .int .i64 (-63), .int .i64 5, .int .i64 0, .int .i64 0, .int .i64 63, .int .i64 6, .int .i64 0, .int .i64 0, .int .i64 1, .int .i64 6, .int .i64 0, .int .i64 0, .int .i64 64, .int .i64 7, .int .i64 7, .int .i64 0, .int .i64 24, .int .i64 8, .int .i64 0, .int .i64 24, .int .i64 20, .int .i64 9, .int .i64 3, .int .i64 0, .int .i64 0, .int .i64 10, .int .i64 0, .int .i64 0, .int .i64 0, .int .i64 11, .int .i64 0, .int .i64 0, .int .i64 0] 23)).alloc (.cells #[.int .i64 0, .int .i64 1, .int .i64 0, .int .i64 0, .int .i64 0, .int .i64 0, .int .i64 0, .int .i64 1, .int .i64 1, .int .i64 8, .int .i64 0, .int .i64 0, .int .i64 1, .int .i64 (-1), .int .i64 0, .int .i64 0, .int .i64 1, .int .i64 0, .int .i64 1, .int .i64 0, .int .i64 1, .int .i64 0, .int .i64 0, .int .i64 2147483648, .int .i64 2, .int .i64 0, .int .i64 8, .int .i64 0, .int .i64 3, .int .i64 0, .int .i64 0, .int .i64 1, .int .i64 5, .int .i64 0, .int .i64 0, .int .i64 64, .int .i64 5, .int .i64 0, .int .i64 0, .int .i64 (-64), .int .i64 6, .int .i64 0, .int .i64 0, .int .i64 0, .int .i64 6, .int .i64 0, .int .i64 0, .int .i64 65, .int .i64 7, .int .i64 0, .int .i64 0, .int .i64 0, .int .i64 7, .int .i64 0, .int .i64 0, .int .i64 25, .int .i64 7, .int .i64 0, .int .i64 1, .int .i64 1, .int .i64 8, .int .i64 0, .int .i64 0, .int .i64 1, .int .i64 8, .int .i64 0, .int .i64 1, .int .i64 0, .int .i64 8, .int .i64 0, .int .i64 1, .int .i64 21, .int .i64 8, .int .i64 1, .int .i64 1, .int .i64 1, .int .i64 9, .int .i64 4, .int .i64 0, .int .i64 0, .int .i64 9, .int .i64 0, .int .i64 1, .int .i64 0, .int .i64 11, .int .i64 1, .int .i64 0, .int .i64 0, .int .i64 12, .int .i64 0, .int .i64 0, .int .i64 0, .int .i64 (-1), .int .i64 0, .int .i64 0, .int .i64 0] 23)) (some ⟨w1.heap.size + 1, 0, none⟩) 24 badL := rd_block (heap_at (by simp)) 24 rfl rfl
  have hB : Below w.heap.size w ((w1.alloc (.cells #[.int .i64 0, .int .i64 0, .int .i64 0, .int .i64 0, .int .i64 1, .int .i64 7, .int .i64 0, .int .i64 (-2147483648), .int .i64 1, .int .i64 0, .int .i64 0, .int .i64 2147483647, .int .i64 2, .int .i64 7, .int .i64 7, .int .i64 0, .int .i64 5, .int .i64 7, .int .i64 0, .int .i64 (-63), .int .i64 5, .int .i64 0, .int .i64 0, .int .i64 63, .int .i64 6, .int .i64 0, .int .i64 0, .int .i64 1, .int .i64 6, .int .i64 0, .int .i64 0, .int .i64 64, .int .i64 7, .int .i64 7, .int .i64 0, .int .i64 24, .int .i64 8, .int .i64 0, .int .i64 24, .int .i64 20, .int .i64 9, .int .i64 3, .int .i64 0, .int .i64 0, .int .i64 10, .int .i64 0, .int .i64 0, .int .i64 0, .int .i64 11, .int .i64 0, .int .i64 0, .int .i64 0] 23)).alloc (.cells #[.int .i64 0, .int .i64 1, .int .i64 0, .int .i64 0, .int .i64 0, .int .i64 0, .int .i64 0, .int .i64 1, .int .i64 1, .int .i64 8, .int .i64 0, .int .i64 0, .int .i64 1, .int .i64 (-1), .int .i64 0, .int .i64 0, .int .i64 1, .int .i64 0, .int .i64 1, .int .i64 0, .int .i64 1, .int .i64 0, .int .i64 0, .int .i64 2147483648, .int .i64 2, .int .i64 0, .int .i64 8, .int .i64 0, .int .i64 3, .int .i64 0, .int .i64 0, .int .i64 1, .int .i64 5, .int .i64 0, .int .i64 0, .int .i64 64, .int .i64 5, .int .i64 0, .int .i64 0, .int .i64 (-64), .int .i64 6, .int .i64 0, .int .i64 0, .int .i64 0, .int .i64 6, .int .i64 0, .int .i64 0, .int .i64 65, .int .i64 7, .int .i64 0, .int .i64 0, .int .i64 0, .int .i64 7, .int .i64 0, .int .i64 0, .int .i64 25, .int .i64 7, .int .i64 0, .int .i64 1, .int .i64 1, .int .i64 8, .int .i64 0, .int .i64 0, .int .i64 1, .int .i64 8, .int .i64 0, .int .i64 1, .int .i64 0, .int .i64 8, .int .i64 0, .int .i64 1, .int .i64 21, .int .i64 8, .int .i64 1, .int .i64 1, .int .i64 1, .int .i64 9, .int .i64 4, .int .i64 0, .int .i64 0, .int .i64 9, .int .i64 0, .int .i64 1, .int .i64 0, .int .i64 11, .int .i64 1, .int .i64 0, .int .i64 0, .int .i64 12, .int .i64 0, .int .i64 0, .int .i64 0, .int .i64 (-1), .int .i64 0, .int .i64 0, .int .i64 0] 23)) := (hb1.alloc hb1.size _).alloc (by simp; have := hb1.size; omega) _
  generalize ((w1.alloc (.cells #[.int .i64 0, .int .i64 0, .int .i64 0, .int .i64 0, .int .i64 1, .int .i64 7, .int .i64 0, .int .i64 (-2147483648), .int .i64 1, .int .i64 0, .int .i64 0, .int .i64 2147483647, .int .i64 2, .int .i64 7, .int .i64 7, .int .i64 0, .int .i64 5, .int .i64 7, .int .i64 0, .int .i64 (-63), .int .i64 5, .int .i64 0, .int .i64 0, .int .i64 63, .int .i64 6, .int .i64 0, .int .i64 0, .int .i64 1, .int .i64 6, .int .i64 0, .int .i64 0, .int .i64 64, .int .i64 7, .int .i64 7, .int .i64 0, .int .i64 24, .int .i64 8, .int .i64 0, .int .i64 24, .int .i64 20, .int .i64 9, .int .i64 3, .int .i64 0, .int .i64 0, .int .i64 10, .int .i64 0, .int .i64 0, .int .i64 0, .int .i64 11, .int .i64 0, .int .i64 0, .int .i64 0] 23)).alloc (.cells #[.int .i64 0, .int .i64 1, .int .i64 0, .int .i64 0, .int .i64 0, .int .i64 0, .int .i64 0, .int .i64 1, .int .i64 1, .int .i64 8, .int .i64 0, .int .i64 0, .int .i64 1, .int .i64 (-1), .int .i64 0, .int .i64 0, .int .i64 1, .int .i64 0, .int .i64 1, .int .i64 0, .int .i64 1, .int .i64 0, .int .i64 0, .int .i64 2147483648, .int .i64 2, .int .i64 0, .int .i64 8, .int .i64 0, .int .i64 3, .int .i64 0, .int .i64 0, .int .i64 1, .int .i64 5, .int .i64 0, .int .i64 0, .int .i64 64, .int .i64 5, .int .i64 0, .int .i64 0, .int .i64 (-64), .int .i64 6, .int .i64 0, .int .i64 0, .int .i64 0, .int .i64 6, .int .i64 0, .int .i64 0, .int .i64 65, .int .i64 7, .int .i64 0, .int .i64 0, .int .i64 0, .int .i64 7, .int .i64 0, .int .i64 0, .int .i64 25, .int .i64 7, .int .i64 0, .int .i64 1, .int .i64 1, .int .i64 8, .int .i64 0, .int .i64 0, .int .i64 1, .int .i64 8, .int .i64 0, .int .i64 1, .int .i64 0, .int .i64 8, .int .i64 0, .int .i64 1, .int .i64 21, .int .i64 8, .int .i64 1, .int .i64 1, .int .i64 1, .int .i64 9, .int .i64 4, .int .i64 0, .int .i64 0, .int .i64 9, .int .i64 0, .int .i64 1, .int .i64 0, .int .i64 11, .int .i64 1, .int .i64 0, .int .i64 0, .int .i64 12, .int .i64 0, .int .i64 0, .int .i64 0, .int .i64 (-1), .int .i64 0, .int .i64 0, .int .i64 0] 23)) = W at *
  have hlt : w1.heap.size < W.heap.size := by
    obtain ⟨_, _, e, h, _⟩ := hg.pos (by decide)
    cases e
    exact h
  clear hb1
  generalize w1.heap.size = G at *
  go_loopw [3] (fun i wr => ∃ k : Nat, k ≤ 13 ∧ i = .int .i64 k ∧ Below W.heap.size W wr) (fun i _ => 13 - (intOf i).toNat)
  case atStart => exact ⟨0, by omega, rfl, Below.refl _ _⟩
  case round =>
    obtain ⟨k, hk, rfl, hbw⟩ := hrel
    by_cases hlk : k < 13
    · have hr := hg.below hbw
      obtain ⟨b', o', e', hbz, f0, f1, f2, f3⟩ := hr.inst k hlk
      cases e'
      rw [Nat.zero_add] at f0 f1 f2 f3
      have hm := good_all _ (List.getElem_mem (l := goodL) (n := k) hlk)
      have hr1 := rd_one_of hr rfl k hlk
      have hp := put_one hm
      generalize goodL[k] = x at *
      obtain ⟨xo, xa, xb, xn⟩ := x
      simp only at f0 f1 f2 f3
      go_wp2_with (first
        | (go_at_call 14; refine (may_c xo xa xb xn _ true hm).mono ?_; rintro e w2 ⟨rfl, hb2⟩; have B2 := bel_call hbw (Nat.le_refl _) hb2)
        | (go_at_call 16; refine (put_c _ _ [(xo, xa, xb, xn)] _ 1 _ 8 rfl rfl hp (hr1.below hb2) (by omega)).mono ?_; rintro e w3 ⟨p3, c3, rfl, o3, hb3⟩; have B3 := bel_call B2 (Nat.le_refl _) hb3))
      go_roundw
      case rel => exact ⟨k + 1, by omega, by go_num, B3⟩
      case measure => simp [intOf]; omega
    · have dk : decide ((k : Int) < 13) = false := by simp; omega
      clear hk hlk
      go_wp2
      go_loopw [4] (fun i wr => ∃ j : Nat, j ≤ 24 ∧ i = .int .i64 j ∧ Below W.heap.size W wr) (fun i _ => 24 - (intOf i).toNat)
      case atStart => exact ⟨0, by omega, rfl, hbw⟩
      case round =>
        obtain ⟨j, hj, rfl, hbv⟩ := hrel
        by_cases hlj : j < 24
        · have hr := hb.below hbv
          obtain ⟨b', o', e', hbz, f0, f1, f2, f3⟩ := hr.inst j hlj
          cases e'
          rw [Nat.zero_add] at f0 f1 f2 f3
          have hm := bad_all _ (List.getElem_mem (l := badL) (n := j) hlj)
          have hr1 := rd_one_of hr rfl j hlj
          have hp := put_none hm
          generalize badL[j] = x at *
          obtain ⟨xo, xa, xb, xn⟩ := x
          simp only at f0 f1 f2 f3
          go_wp2_with (first
            | (go_at_call 14; refine (may_c xo xa xb xn _ false hm).mono ?_; rintro e w2 ⟨rfl, hb2⟩; have B2 := bel_call hbv (Nat.le_refl _) hb2)
            | (go_at_call 16; refine (put_c _ _ [(xo, xa, xb, xn)] _ 1 _ 0 rfl rfl hp (hr1.below hb2) (by omega)).mono ?_; rintro e w3 ⟨p3, c3, rfl, o3, hb3⟩; have B3 := bel_call B2 (Nat.le_refl _) hb3))
          go_roundw
          case rel => exact ⟨j + 1, by omega, by go_num, B3⟩
          case measure => simp [intOf]; omega
        · have dj : decide ((j : Int) < 24) = false := by simp; omega
          clear hj hlj
          have z0 := fun (w : World) => put_c none 0 [] w 0 [0] 1 rfl (by decide) rfl (Rd.nil w) (by omega)
          have z1 := fun (p : Option Addr) (c : Nat) (w : World) (hr : Rd eIn w p c (List.replicate 25 (0, 0, 0, 0))) => put_c p c (List.replicate 25 (0, 0, 0, 0)) w 25 [] 0 rfl (by decide) rfl hr (by omega)
          have z2 := fun (p : Option Addr) (c : Nat) (w : World) (hr : Rd eIn w p c (List.replicate 24 (0, 0, 0, 0))) => put_c p c (List.replicate 24 (0, 0, 0, 0)) w 24 (putL (List.replicate 24 (0, 0, 0, 0))) 169 rfl rfl (by decide) hr (by omega)
          have hs : ∀ (p : Option Addr) (c : Nat) (w : World), Rd eBy w p c [0] → (convert 25 9 (.slice p 1 c)).run Try.prog w = .ok (.string { data := #[0] }) w := fun p c w hr => str_run hr 1 rfl
          have m25 := make_c 25 (by omega) (List.replicate 25 (0, 0, 0, 0)) rfl made25
          have m24 := make_c 24 (by omega) (List.replicate 24 (0, 0, 0, 0)) rfl made24
          go_wp2_with (first
            | (go_at_call 16; (with_reducible (refine (z0 _).mono ?_)); (rintro e w4 ⟨p4, c4, rfl, o4, b4⟩); have B4 := bel_call hbv (Nat.le_refl _) b4; have hstr := hs _ _ _ (own_rd o4); obtain ⟨w5, r5, o5, b5⟩ := m25 w4; have B5 := bel_call B4 (Nat.le_refl _) b5; simp only [Int.cast_ofNat_Int] at r5)
            | (go_at_call 16; (with_reducible (refine (z1 _ _ _ (own_rd o5)).mono ?_)); (rintro e w6 ⟨p6, c6, rfl, o6, b6⟩); have B6 := bel_call B5 (Nat.le_refl _) b6; obtain ⟨w7, r7, o7, b7⟩ := m24 w6; have B7 := bel_call B6 (Nat.le_refl _) b7; simp only [Int.cast_ofNat_Int] at r7)
            | (go_at_call 16; (with_reducible (refine (z2 _ _ _ (own_rd o7)).mono ?_)); (rintro e w8 ⟨p8, c8, rfl, o8, b8⟩); have B8 := bel_call B7 (Nat.le_refl _) b8))
          go_ret
          exact ⟨rfl, hB.trans (B8.mono hB.size)⟩
end Go.Proofs.Ythkkojoanbeegaa
