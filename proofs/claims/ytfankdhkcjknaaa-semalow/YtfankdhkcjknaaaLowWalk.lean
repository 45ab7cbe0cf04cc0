/-
  The law SemaLow, walked.
-/
import Derived.Test.YtfankdhkcjknaaaBegun
import Derived.Test.YtfankdhkcjknaaaLowMath
import Derived.Test.YtfankdhkcjknaaaArgs
namespace Go.Proofs.Ytfankdhkcjknaaa
open Go.ChangeShapes Go.WideShapes Go.ChangeAt Go.RowKit
attribute [local go_sem ↓] Go.wp_at_zero Go.wp_at_succ

theorem bytes4_at {w : World} {g : Nat} {a b c d : Int} (h : w.heap[g]? = some (.cells #[.int .u8 a, .int .u8 b, .int .u8 c, .int .u8 d] 38 (0, 0))) (k : Nat) (hk : k < 4) : w.cell? ⟨g, k, none⟩ = some (.int .u8 ([a, b, c, d][k]'hk)) := by
  have := World.news_of_block h k (.int .u8 ([a, b, c, d][k]'hk)) (by
    have : k = 0 ∨ k = 1 ∨ k = 2 ∨ k = 3 := by omega
    rcases this with rfl | rfl | rfl | rfl <;> rfl)
  rwa [add_plain, Nat.zero_add] at this
theorem bytes4_in {a b c d : Int} (ha : 0 ≤ a ∧ a ≤ 255) (hb : 0 ≤ b ∧ b ≤ 255) (hc : 0 ≤ c ∧ c ≤ 255) (hd : 0 ≤ d ∧ d ≤ 255) (k : Nat) (hk : k < 4) : 0 ≤ ([a, b, c, d][k]'hk) ∧ ([a, b, c, d][k]'hk) ≤ 255 := by
  have : k = 0 ∨ k = 1 ∨ k = 2 ∨ k = 3 := by omega
  rcases this with rfl | rfl | rfl | rfl
  · exact ha
  · exact hb
  · exact hc
  · exact hd
/-- the four semaphores of the law -/
def semL (a b c d e f g h : Int) : List Sm := [(a % 9, e % 5), (b % 9, f % 5), (c % 9, g % 5), (d % 9, h % 5)]
theorem semL_get {a b c d e f g h : Int} (k : Nat) (hk : k < 4) : (semL a b c d e f g h)[k]'hk = (([a, b, c, d][k]'hk) % 9, ([e, f, g, h][k]'hk) % 5) := by
  have : k = 0 ∨ k = 1 ∨ k = 2 ∨ k = 3 := by omega
  rcases this with rfl | rfl | rfl | rfl <;> rfl
theorem take_snoc {α : Type} (l : List α) (k : Nat) (hk : k < l.length) : l.take (k + 1) = l.take k ++ [l[k]] := List.take_succ_eq_append_getElem hk
theorem ret_b {a b : Bool} (h : a = b) : Ending.returned (.bool a) = .returned (.bool b) := by rw [h]

set_option maxRecDepth 100000 in
set_option maxHeartbeats 16000000 in
theorem low_walk (a b c d e f g h : Int) (ha : 0 ≤ a ∧ a ≤ 255) (hb : 0 ≤ b ∧ b ≤ 255) (hc : 0 ≤ c ∧ c ≤ 255) (hd : 0 ≤ d ∧ d ≤ 255) (he : 0 ≤ e ∧ e ≤ 255) (hf : 0 ≤ f ∧ f ≤ 255) (hg : 0 ≤ g ∧ g ≤ 255) (hh : 0 ≤ h ∧ h ≤ 255)
    (p : Option Addr) (cp : Nat) (zs : List Int) (w : World) (hr : Rd eB w p cp zs) (n : Nat) (hn : zs.length = n) (hz : ∀ y ∈ zs, 0 ≤ y ∧ y ≤ 255) (t : Int) (ht0 : 0 ≤ t) (ht1 : t ≤ 255) :
    Calls Try.prog 6 #[.agg #[.int .u8 a, .int .u8 b, .int .u8 c, .int .u8 d], .agg #[.int .u8 e, .int .u8 f, .int .u8 g, .int .u8 h], .slice p n cp, .int .u8 t] w fun e w' => e = .returned (.bool true) ∧ Below w.heap.size w w' := by
  have HN : Hid (zs.length = n) := hn
  clear hn
  obtain ⟨W0, hW0⟩ : ∃ W0, W0 = (w.alloc (.cells #[.int .u8 a, .int .u8 b, .int .u8 c, .int .u8 d] 38)).alloc (.cells #[.int .u8 e, .int .u8 f, .int .u8 g, .int .u8 h] 38) := ⟨_, rfl⟩
  have Hc : W0.heap[w.heap.size]? = some (.cells #[.int .u8 a, .int .u8 b, .int .u8 c, .int .u8 d] 38 (0, 0)) := by
    rw [hW0, heap_alloc_old _ _ (by simp)]; exact heap_alloc_new _ _
  have Hh : W0.heap[w.heap.size + 1]? = some (.cells #[.int .u8 e, .int .u8 f, .int .u8 g, .int .u8 h] 38 (0, 0)) := by
    rw [hW0]; exact heap_at (by simp)
  have B0 : Below w.heap.size w W0 := by rw [hW0]; exact ((Below.refl _ _).alloc (Nat.le_refl _) _).alloc (by simp) _
  have hsz : W0.heap.size = w.heap.size + 2 := by rw [hW0]; simp
  by_cases c1 : 6 < n
  · have d1 : decide ((6 : Int) < (n : Int)) = true := by simp; omega
    go_enter Try.func6, Try.ntmps6
    go_wp2_with (go_at_call 7; refine (begun_any _).mono ?_; rintro e w1 ⟨rfl, b1⟩)
    go_ret
    rw [← hW0] at b1
    exact ⟨rfl, bel_call B0 (Nat.le_refl _) b1⟩
  have d1 : decide ((6 : Int) < (n : Int)) = false := by simp; omega
  obtain ⟨τ, hτ⟩ : ∃ τ, t % 4 = τ := ⟨_, rfl⟩
  have hτ0 : 0 ≤ τ := by omega
  have hτ3 : τ ≤ 3 := by omega
  obtain ⟨H, hH⟩ : ∃ H, τ + 1 = H := ⟨_, rfl⟩
  have HH : Hid (τ + 1 = H) := hH
  clear hH
  go_enter Try.func6, Try.ntmps6
  go_wp2_with (go_at_call 7; refine (begun_any _).mono ?_; rintro e w1 ⟨rfl, b1⟩)
  rw [← hW0] at b1
  clear hτ
  have C1 := bel_call B0 (Nat.le_refl _) b1
  have Hc1 := (b1.block _ (by omega)).trans Hc
  have Hh1 := (b1.block _ (by omega)).trans Hh
  have hb1 : w.heap.size + 1 < w1.heap.size := Nat.lt_of_lt_of_le (by omega) b1.size
  have r1 := hr.below C1
  clear hr b1 Hc Hh B0 hsz hW0 W0
  obtain ⟨gc, hgc⟩ : ∃ g, g = w.heap.size := ⟨_, rfl⟩
  have HGC : Hid (gc = w.heap.size) := hgc
  rw [← hgc] at Hc1 Hh1 hb1
  simp only [← hgc]
  clear hgc
  go_loopw [10, 11] (fun q i wr => ∃ (k : Nat) (x : Option Addr) (y : Nat), k ≤ 4 ∧ i = .int .i64 k ∧ q = .slice x k y ∧ Own eS wr w1.heap.size 36 x y ((semL a b c d e f g h).take k) ∧ Below w1.heap.size w1 wr) (fun _ i _ => 4 - (intOf i).toNat)
  case atStart => exact ⟨0, none, 0, by omega, rfl, rfl, own_nil _ _ _, Below.refl _ _⟩
  case round =>
    obtain ⟨k, x, y, hk, rfl, rfl, ok, hbw⟩ := hrel
    by_cases hlt : k < 4
    · have cA := (hbw.cell (p := ⟨gc, k, none⟩) (by show gc < _; omega)).trans (bytes4_at Hc1 k hlt)
      have cB := (hbw.cell (p := ⟨gc + 1, k, none⟩) hb1).trans (bytes4_at Hh1 k hlt)
      obtain ⟨X0, X1⟩ := bytes4_in ha hb hc hd k hlt
      obtain ⟨Y0, Y1⟩ := bytes4_in he hf hg hh k hlt
      have HG := semL_get (a := a) (b := b) (c := c) (d := d) (e := e) (f := f) (g := g) (h := h) k hlt
      have HS := take_snoc (semL a b c d e f g h) k hlt
      rw [HG] at HS
      obtain ⟨X, hX⟩ : ∃ X, ([a, b, c, d][k]'hlt) = X := ⟨_, rfl⟩
      obtain ⟨Y, hY⟩ : ∃ Y, ([e, f, g, h][k]'hlt) = Y := ⟨_, rfl⟩
      rw [hX] at cA X0 X1 HS
      rw [hY] at cB Y0 Y1 HS
      have HT : Hid ((semL a b c d e f g h).take (k + 1) = (semL a b c d e f g h).take k ++ [(X % 9, Y % 5)]) := HS
      have HK : Hid (((semL a b c d e f g h).take k).length = k) := by
        have h0 : (semL a b c d e f g h).length = 4 := rfl
        rw [Hid, List.length_take, h0]; omega
      clear hX hY HG HS
      generalize (semL a b c d e f g h).take k = A at *
      have hP : IntKind.i64.wrap (X.tmod 9) = X % 9 := by rw [IntKind.wrap_i64, Int.tmod_eq_emod_of_nonneg X0]; omega
      have hR : IntKind.i64.wrap (Y.tmod 5) = Y % 5 := by rw [IntKind.wrap_i64, Int.tmod_eq_emod_of_nonneg Y0]; omega
      rw [← hP, ← hR] at HT
      clear hP hR
      have hoA : Own eS (wr.alloc (.cells #[.int .i64 (IntKind.i64.wrap (X.tmod 9)), .int .i64 (IntKind.i64.wrap (Y.tmod 5))] 36)).drew w1.heap.size 36 x y A := own_heapEq (own_below ok ((Below.refl _ _).alloc (Nat.le_refl _) (.cells #[.int .i64 (IntKind.i64.wrap (X.tmod 9)), .int .i64 (IntKind.i64.wrap (Y.tmod 5))] 36))) rfl
      have hrA : Rd eS (wr.alloc (.cells #[.int .i64 (IntKind.i64.wrap (X.tmod 9)), .int .i64 (IntKind.i64.wrap (Y.tmod 5))] 36)).drew (some ⟨wr.heap.size, 0, none⟩) 1 [(IntKind.i64.wrap (X.tmod 9), IntKind.i64.wrap (Y.tmod 5))] := (rd_block (heap_alloc_new wr (.cells #[.int .i64 (IntKind.i64.wrap (X.tmod 9)), .int .i64 (IntKind.i64.wrap (Y.tmod 5))] 36)) 1 rfl rfl).below (Below.refl _ _).drew
      have hbA : Below wr.heap.size wr (wr.alloc (.cells #[.int .i64 (IntKind.i64.wrap (X.tmod 9)), .int .i64 (IntKind.i64.wrap (Y.tmod 5))] 36)).drew := ((Below.refl _ _).alloc (Nat.le_refl _) _).drew
      have hzA : w1.heap.size ≤ (wr.alloc (.cells #[.int .i64 (IntKind.i64.wrap (X.tmod 9)), .int .i64 (IntKind.i64.wrap (Y.tmod 5))] 36)).drew.heap.size := by have := hbA.size; have := hbw.size; omega
      have hA9 : k + 1 ≤ 2000 := by omega
      have hkI : (k : Int) < 4 := by omega
      have hBA := bel_call hbw (Nat.le_refl _) hbA
      go_wp2
      go_region_law (refine step_app tS _ rfl _ _ rfl w1.heap.size x y A k HK.out (by simp [Act.eval]) hoA _ _ [(IntKind.i64.wrap (X.tmod 9), IntKind.i64.wrap (Y.tmod 5))] 1 rfl (by simp [Act.eval]) hrA hA9 hzA (k + 1) rfl ?_; intro p2 c2 w2 o2 b2 st2)
      all_goals
        go_wp2
        go_roundw
        case rel => exact ⟨k + 1, p2, c2, by omega, by go_num, rfl, by rw [HT.out]; exact o2, hBA.trans b2⟩
        case measure => simp [intOf]; omega
    · have dk : decide ((k : Int) < 4) = false := by simp; omega
      have hK4 : 4 ≤ k := by omega
      have rA := own_rd ok
      obtain ⟨L0, hL0⟩ : ∃ L0, L0 = (semL a b c d e f g h).take k := ⟨_, rfl⟩
      have HL0 : Hid (L0.length = k) := by
        have h0 : (semL a b c d e f g h).length = 4 := rfl
        rw [Hid, hL0, List.length_take, h0]; omega
      rw [← hL0] at rA
      clear hL0 ok
      obtain ⟨wA, hwA⟩ : ∃ wA : World, wA = wr := ⟨_, rfl⟩
      subst hwA
      have r2 := r1.below hbw
      have C2 := bel_call C1 (Nat.le_refl _) hbw
      clear hbw r1 C1 Hc1 Hh1
      go_wp2
      go_loopw [12, 13] (fun q i wr => ∃ (j : Nat) (u : Option Addr) (v : Nat), j ≤ n ∧ i = .int .i64 j ∧ q = .slice u j v ∧ Own eI wr wA.heap.size 3 u v ((zs.take j).map (· % 5)) ∧ Below wA.heap.size wA wr) (fun _ i _ => n - (intOf i).toNat)
      case atStart => exact ⟨0, none, 0, by omega, rfl, rfl, own_nil _ _ _, Below.refl _ _⟩
      case round =>
        obtain ⟨j, u, v, hj, rfl, rfl, oj, hbj⟩ := hrel
        by_cases hltj : j < n
        · have hjl : j < zs.length := by rw [HN.out]; exact hltj
          obtain ⟨bz, oz, rfl, hbz, hcz⟩ := (r2.below hbj).byte j hjl
          obtain ⟨Z0, Z1⟩ := hz zs[j] (List.getElem_mem hjl)
          have HS := take_snoc zs j hjl
          obtain ⟨Z, hZ⟩ : ∃ Z, zs[j] = Z := ⟨_, rfl⟩
          rw [hZ] at hcz Z0 Z1 HS
          have HT : Hid ((zs.take (j + 1)).map (· % 5) = (zs.take j).map (· % 5) ++ [Z % 5]) := by rw [Hid, HS, List.map_append]; rfl
          have HK : Hid (((zs.take j).map (· % 5)).length = j) := by rw [Hid, List.length_map, List.length_take]; omega
          clear hZ HS
          generalize (zs.take j).map (· % 5) = A at *
          have hzj := hbj.size
          go_wp2_with (at_builtin; refine wpList_app tI _ rfl _ _ rfl wA.heap.size u v A j HK.out rfl (own_below oj ((Below.refl _ _).alloc (Nat.le_refl _) _)) _ _ [Z % 5] 1 rfl rfl (rd_block (heap_alloc_new _ _) 1 rfl rfl) (by omega) (by simp; omega) (j + 1) rfl ?_; intro p5 c5 w5 o5 b5 st5)
          go_roundw
          case rel => exact ⟨j + 1, p5, c5, by omega, by go_num, rfl, by rw [HT.out]; exact o5, (hbj.alloc hbj.size _).trans b5⟩
          case measure => simp [intOf]; omega
        · have dj : decide ((j : Int) < (n : Int)) = false := by simp; omega
          have dj2 : decide (j < n) = false := by simp; omega
          have rB := own_rd oj
          obtain ⟨H0, hH0⟩ : ∃ H0, H0 = (zs.take j).map (· % 5) := ⟨_, rfl⟩
          have HH0 : Hid (H0.length = j) := by rw [Hid, hH0, List.length_map, List.length_take, HN.out]; omega
          have hb0 : ∀ s ∈ H0, 0 ≤ s ∧ s ≤ 4 := by
            intro s hs
            rw [hH0] at hs
            obtain ⟨q, hq, rfl⟩ := List.mem_map.1 hs
            have := hz q (List.mem_of_mem_take hq)
            omega
          rw [← hH0] at rB
          clear hH0 oj
          obtain ⟨wB, hwB⟩ : ∃ wB : World, wB = wr := ⟨_, rfl⟩
          subst hwB
          have rA2 := rA.below hbj
          have C3 := bel_call C2 (Nat.le_refl _) hbj
          clear hbj rA r2 C2 hz
          obtain ⟨V, hV⟩ : ∃ V, (lowS L0 H0 H).getD 0 = V := ⟨_, rfl⟩
          obtain ⟨is, hI⟩ : ∃ is, (lowS L0 H0 H).isSome = is := ⟨_, rfl⟩
          have HV : Hid ((lowS L0 H0 H).getD 0 = V) := hV
          have HI : Hid ((lowS L0 H0 H).isSome = is) := hI
          have HLE := low_end L0 H0 H V is hV hI
          obtain ⟨E1, E2, E3, E4⟩ := HLE
          have HE : Hid (is = !(ceilsOf L0 H H0).isEmpty) := E1
          have HF : Hid ((is = true → V ∈ ceilsOf L0 H H0) ∧ (is = false → V = 0)) := ⟨E2, E3⟩
          clear hV hI E1 E2 E3
          go_wp2_with (first
            | (go_at_call 13; (with_reducible (refine (low_c _ _ L0 _ rA2 k HL0.out (by omega) _ _ H0 rB j HH0.out (by omega) τ H hτ0 (by omega) HH.out V HV.out is HI.out).mono ?_)); (rintro e w6 ⟨rfl, b6⟩; have rA3 := rA2.below b6; have rB3 := rB.below b6; have C4 := bel_call C3 (Nat.le_refl _) b6)))
          clear rA2 rB C3 b6
          go_loop [16, 17, 18] (fun A B i => ∃ (m : Nat) (an at_ : Bool), m ≤ j ∧ i = .int .i64 m ∧ A = .bool an ∧ B = .bool at_ ∧ (!(ceilsOf L0 H (H0.take m)).isEmpty) = an ∧ decide (V ∈ ceilsOf L0 H (H0.take m)) = at_) (fun _ _ i => j - (intOf i).toNat)
          case atStart => exact ⟨0, false, false, by omega, rfl, rfl, rfl, rfl, rfl⟩
          case round =>
            obtain ⟨m, an, at_, hm, rfl, rfl, rfl, hA1, hA2⟩ := hrel
            have HA1 : Hid ((!(ceilsOf L0 H (H0.take m)).isEmpty) = an) := hA1
            have HA2 : Hid (decide (V ∈ ceilsOf L0 H (H0.take m)) = at_) := hA2
            clear hA1 hA2
            by_cases hltm : m < j
            · have hml : m < H0.length := by rw [HH0.out]; exact hltm
              obtain ⟨bh, oh, rfl, hbh, hch⟩ := rB3.num m hml
              obtain ⟨s0, s1⟩ := hb0 H0[m] (List.getElem_mem hml)
              have HS := ceilsOf_succ L0 H H0 m hml
              have HM := fun y => ceilsOf_mem (l := L0) (h := H) (held := H0) hml (y := y)
              obtain ⟨s, hs⟩ : ∃ s, H0[m] = s := ⟨_, rfl⟩
              rw [hs] at hch s0 s1 HS
              simp only [hs] at HM
              clear hs
              have hmI : (m : Int) < (j : Int) := by omega
              by_cases h4 : s = 4
              · subst h4
                rw [lookS_high (by rw [HL0.out]; omega)] at HS
                have HT : Hid (ceilsOf L0 H (H0.take (m + 1)) = ceilsOf L0 H (H0.take m)) := by simpa [Hid] using HS
                clear HS HM
                go_wp2
                go_round
                case rel => exact ⟨m + 1, an, at_, by omega, by go_num, rfl, rfl, by rw [HT.out]; exact HA1.out, by rw [HT.out]; exact HA2.out⟩
                case measure => simp [intOf]; omega
              · obtain ⟨σ, rfl⟩ : ∃ σ : Nat, s = (σ : Int) := ⟨s.toNat, by omega⟩
                have hσ : σ < L0.length := by rw [HL0.out]; omega
                have dS : decide ((3 : Int) < (σ : Int)) = false := by simp; omega
                have dS2 : decide (3 < σ) = false := by simp; omega
                have dS3 : (σ : Int) < (k : Int) := by rw [HL0.out] at hσ; omega
                obtain ⟨bl, ol, rfl, hbl, e0, e1⟩ := rA3.sem σ hσ
                rw [lookS_at hσ] at HS
                simp only [lookS_at hσ] at HM
                obtain ⟨Y, hY⟩ : ∃ Y, L0[σ].1 = Y := ⟨_, rfl⟩
                rw [hY] at e0 HS
                simp only [hY] at HM
                clear hY
                by_cases h5 : L0[σ].2 = H
                · rw [if_pos h5] at HS
                  have hVY := E4 Y (HM Y (by rw [if_pos h5]))
                  have dV : decide (Y < V) = false := by simp; omega
                  rw [h5, ← HH.out] at e1
                  have HT : Hid (ceilsOf L0 H (H0.take (m + 1)) = ceilsOf L0 H (H0.take m) ++ [Y]) := HS
                  clear HS HM h5
                  cases at_ with
                  | true =>
                    have HV0 : V ∈ ceilsOf L0 H (H0.take m) := of_decide_eq_true HA2.out
                    have HV1 : Hid (V ∈ ceilsOf L0 H (H0.take m)) := HV0
                    clear HV0
                    go_wp2
                    go_round
                    case rel => exact ⟨m + 1, true, true, by omega, by go_num, rfl, rfl, by rw [HT.out]; simp, by rw [HT.out]; simp [HV1.out]⟩
                    case measure => simp [intOf]; omega
                  | false =>
                    have HV0 : ¬ V ∈ ceilsOf L0 H (H0.take m) := of_decide_eq_false HA2.out
                    have HV1 : Hid (¬ V ∈ ceilsOf L0 H (H0.take m)) := HV0
                    clear HV0
                    by_cases h6 : Y = V
                    · have d6 : (Y == V) = true := by simpa using h6
                      have H6 : Hid (Y = V) := h6
                      clear h6
                      go_wp2
                      go_round
                      case rel => exact ⟨m + 1, true, true, by omega, by go_num, rfl, rfl, by rw [HT.out]; simp, by rw [HT.out]; simp [H6.out]⟩
                      case measure => simp [intOf]; omega
                    · have d6 : (Y == V) = false := by simpa using h6
                      have H6 : Hid (¬ Y = V) := h6
                      clear h6
                      go_wp2
                      go_round
                      case rel => exact ⟨m + 1, true, false, by omega, by go_num, rfl, rfl, by rw [HT.out]; simp, by rw [HT.out]; exact decide_eq_false (fun hm => (List.mem_append.1 hm).elim HV1.out (fun e => H6.out (List.mem_singleton.1 e).symm))⟩
                      case measure => simp [intOf]; omega
                · rw [if_neg h5] at HS
                  have HT : Hid (ceilsOf L0 H (H0.take (m + 1)) = ceilsOf L0 H (H0.take m)) := by simpa [Hid] using HS
                  obtain ⟨xk, hxk⟩ : ∃ xk, L0[σ].2 = xk := ⟨_, rfl⟩
                  rw [hxk] at e1 h5
                  have d5 : (xk == τ + 1) = false := by rw [HH.out]; simpa using h5
                  clear HS HM h5 hxk
                  go_wp2
                  go_round
                  case rel => exact ⟨m + 1, an, at_, by omega, by go_num, rfl, rfl, by rw [HT.out]; exact HA1.out, by rw [HT.out]; exact HA2.out⟩
                  case measure => simp [intOf]; omega
            · have dm : decide ((m : Int) < (j : Int)) = false := by simp; omega
              have dm2 : decide (m < j) = false := by simp; omega
              have hF : ceilsOf L0 H (H0.take m) = ceilsOf L0 H H0 := by rw [List.take_of_length_le (by rw [HH0.out]; omega)]
              have F1 := HA1.out
              have F2 := HA2.out
              have F3 := HE.out
              obtain ⟨F4, F5⟩ := HF.out
              rw [hF] at F1 F2
              rw [F1] at F3
              subst F3
              cases is with
              | true =>
                have : at_ = true := by rw [← F2]; exact decide_eq_true (F4 rfl)
                subst this
                clear F1 F2 F4 F5 hF HF HA1 HA2 HE
                go_wp2
                go_ret
                exact ⟨rfl, C4⟩
              | false =>
                have := F5 rfl
                subst this
                have : at_ = false := by
                  rw [← F2]
                  cases hq : ceilsOf L0 H H0 with
                  | nil => rfl
                  | cons _ _ => rw [hq] at F1; simp at F1
                subst this
                clear F1 F2 F4 F5 hF HF HA1 HA2 HE
                go_wp2
                go_ret
                exact ⟨rfl, C4⟩
end Go.Proofs.Ytfankdhkcjknaaa
