/-
  What the functions of package seal hand back, each by its own Go text, and the document's sum.
-/
import Derived.Test.YtcncpefdjgnhdaaElts
import Derived.Test.YtcncpefdjgnhdaaMath
namespace Go.Proofs.Ytcncpefdjgnhdaa
open Go.ChangeShapes Go.WideShapes Go.ChangeAt Go.RowKit
attribute [local go_sem ↓] Go.wp_at_zero Go.wp_at_succ

theorem ret_u32 {a b : Int} (h : a = b) : Ending.returned (.int .u32 a) = .returned (.int .u32 b) := by rw [h]
theorem u32_eq {a b : Int} (h : a = b) : Value.int .u32 a = .int .u32 b := by rw [h]
theorem u64_eq {a b : Int} (h : a = b) : Value.int .u64 a = .int .u64 b := by rw [h]

theorem rot_or (h : Nat) (hh : h < 4294967296) : bits BinOp.or IntKind.u32 (↑h * 32 % 4294967296) (↑h / 134217728) = (rot h : Int) := by
  have e : (h : Int) * 32 % 4294967296 = ((h % 134217728 * 32 : Nat) : Int) := by
    have := Nat.mul_mod_mul_right 32 h 134217728
    simp only [show 134217728 * 32 = 4294967296 from rfl] at this
    rw [← this]; simp
  have e2 : (h : Int) / 134217728 = ((h / 134217728 : Nat) : Int) := by simp
  rw [e, e2, u32_or_nat _ _ (by omega) (by omega), nat_join 5 _ _ (by omega) (by omega)]
  rfl
theorem turned_any (h : Nat) (hh : h < 4294967296) (w : World) : Calls Try.prog 77 #[.int .u32 (h : Int)] w fun e w' => e = .returned (.int .u32 (rot h : Int)) ∧ w' = w := by
  go_enter Try.func77, Try.ntmps77
  go_wp2
  go_ret
  exact ⟨ret_u32 (rot_or h hh), rfl⟩
theorem stp_xor (g v : Nat) (hg : g < 4294967296) : bits BinOp.xor IntKind.u32 (↑(rot g)) (↑v % 256) = (stp g v : Int) := by
  have e : (v : Int) % 256 = ((v % 256 : Nat) : Int) := by simp
  rw [e, u32_xor_nat _ _ (rot_lt hg) (by omega)]
  rfl
theorem number_any (h u : Nat) (hh : h < 4294967296) (hu : u < 18446744073709551616) (w : World) : Calls Try.prog 76 #[.int .u32 (h : Int), .int .u64 (u : Int)] w fun e w' => e = .returned (.int .u32 (wnk 8 h u : Int)) ∧ w' = w := by
  go_enter Try.func76, Try.ntmps76
  go_wp2
  go_loop [0, 1, 5] (fun a b i => ∃ (k g v : Nat), k ≤ 8 ∧ a = .int .u32 (g : Int) ∧ b = .int .u64 (v : Int) ∧ i = .int .i64 (k : Int) ∧ g < 4294967296 ∧ v < 18446744073709551616 ∧ wnk (8 - k) g v = wnk 8 h u) (fun _ _ i => 8 - (intOf i).toNat)
  case atStart => exact ⟨0, h, u, by omega, rfl, rfl, rfl, hh, hu, rfl⟩
  case round =>
    obtain ⟨k, g, v, hk, rfl, rfl, rfl, hg, hv, hw⟩ := hrel
    have HW : Hid (wnk (8 - k) g v = wnk 8 h u) := hw
    clear hw
    by_cases hlt : k < 8
    · go_wp2_with (go_at_call 77; refine (turned_any g hg _).mono ?_; rintro e w' ⟨rfl, rfl⟩)
      go_round
      case rel =>
        refine ⟨k + 1, stp g v, v / 256, by omega, u32_eq (stp_xor g v hg), u64_eq (by simp), by go_num, stp_lt v hg, by omega, ?_⟩
        have e : 8 - k = (8 - (k + 1)) + 1 := by omega
        have := HW.out
        rw [e] at this
        exact this
      case measure => simp [intOf]; omega
    · go_wp2
      go_ret
      refine ⟨ret_u32 ?_, rfl⟩
      have := HW.out
      rw [show 8 - k = 0 by omega] at this
      simp only [wnk] at this
      rw [this]; rfl
theorem number_c (h : Nat) (b x : Int) (s : Nat) (hh : h < 4294967296) (hb : b = x % 18446744073709551616) (hs : wnk 8 h (ubits x) = s) (w : World) : Calls Try.prog 76 #[.int .u32 (h : Int), .int .u64 b] w fun e w' => e = .returned (.int .u32 (s : Int)) ∧ w' = w := by
  have e : b = (ubits x : Int) := by unfold ubits; omega
  subst e hs
  exact number_any h (ubits x) hh (ubits_lt x) w

theorem sumv_step (g : Nat) (l : List Int) (k : Nat) (hk : k < l.length) : sumv g (l.drop k) = sumv (wnk 8 g (ubits l[k])) (l.drop (k + 1)) := by
  rw [List.drop_eq_getElem_cons hk]; rfl

theorem ssum_any (p : Option Addr) (c : Nat) (l : List Int) (w : World) (hr : Rd eI w p c l) (n : Nat) (hn : l.length = n) (hm : n ≤ 9223372036854775807) (s : Nat) (hs : sumv seed l = s) :
    Calls Try.prog 75 #[.slice p n c] w fun e w' => e = .returned (.int .u32 (s : Int)) ∧ w' = w := by
  have HN : Hid (l.length = n) := hn
  have HS : Hid (sumv seed l = s) := hs
  clear hn hs
  go_enter Try.func75, Try.ntmps75
  go_wp2
  go_loop [3, 5, 8] (fun a _ i => ∃ (k g : Nat), k ≤ n ∧ a = .int .u32 (g : Int) ∧ i = .int .i64 (k : Int) ∧ g < 4294967296 ∧ sumv g (l.drop k) = s) (fun _ _ i => n - (intOf i).toNat)
  case atStart => exact ⟨0, seed, by omega, rfl, rfl, seed_lt, HS.out⟩
  case round =>
    obtain ⟨k, g, hk, rfl, rfl, hg, hw⟩ := hrel
    have HW : Hid (sumv g (l.drop k) = s) := hw
    clear hw
    by_cases hlt : k < n
    · obtain ⟨b, o, rfl, hb, hc⟩ := hr.num k (by rw [HN.out]; exact hlt)
      obtain ⟨x, hx⟩ : ∃ x, x = l[k]'(by rw [HN.out]; exact hlt) := ⟨_, rfl⟩
      have HX : Hid (x = l[k]'(by rw [HN.out]; exact hlt)) := hx
      rw [← hx] at hc
      clear hx
      go_wp2_with (go_at_call 76; refine (number_c g _ x _ hg rfl rfl _).mono ?_; rintro e w' ⟨rfl, rfl⟩)
      go_round
      case rel =>
        refine ⟨k + 1, wnk 8 g (ubits x), by omega, rfl, by go_num, wnk_lt 8 _ hg, ?_⟩
        rw [HX.out, ← sumv_step g l k]
        exact HW.out
      case measure => simp [intOf]; omega
    · go_wp2
      go_ret
      refine ⟨ret_u32 ?_, rfl⟩
      have := HW.out
      rw [List.drop_of_length_le (by rw [HN.out]; omega)] at this
      rw [← this]; rfl
theorem rstep (g v : Nat) (hg : g < 4294967296) : bits BinOp.xor IntKind.u32 (↑g * 32 % 4294967296 + ↑g / 134217728) (↑v % 256) = (stp g v : Int) := by
  rw [← stp_xor g v hg]
  have e : (g : Int) * 32 % 4294967296 = ((g % 134217728 * 32 : Nat) : Int) := by
    have := Nat.mul_mod_mul_right 32 g 134217728
    simp only [show 134217728 * 32 = 4294967296 from rfl] at this
    rw [← this]; simp
  rw [e]; rfl
theorem rssum_any (p : Option Addr) (c : Nat) (l : List Int) (w : World) (hr : Rd eI w p c l) (n : Nat) (hn : l.length = n) (hm : n ≤ 9223372036854775807) (s : Nat) (hs : sumv seed l = s) :
    Calls Try.prog 71 #[.slice p n c] w fun e w' => e = .returned (.int .u32 (s : Int)) ∧ w' = w := by
  have HN : Hid (l.length = n) := hn
  have HS : Hid (sumv seed l = s) := hs
  clear hn hs
  go_enter Try.func71, Try.ntmps71
  go_wp2
  go_loop [3, 4, 5, 6] (fun a i _ _ => ∃ (k g : Nat), k ≤ n ∧ a = .int .u32 (g : Int) ∧ i = .int .i64 (k : Int) ∧ g < 4294967296 ∧ sumv g (l.drop k) = s) (fun _ i _ _ => n - (intOf i).toNat)
  case atStart => exact ⟨0, seed, by omega, rfl, rfl, seed_lt, HS.out⟩
  case round =>
    obtain ⟨k, g, hk, rfl, rfl, hg, hw⟩ := hrel
    have HW : Hid (sumv g (l.drop k) = s) := hw
    clear hw
    by_cases hlt : k < n
    · obtain ⟨b, o, rfl, hb, hc⟩ := hr.num k (by rw [HN.out]; exact hlt)
      obtain ⟨x, hx⟩ : ∃ x, x = l[k]'(by rw [HN.out]; exact hlt) := ⟨_, rfl⟩
      have HX : Hid (x = l[k]'(by rw [HN.out]; exact hlt)) := hx
      rw [← hx] at hc
      clear hx
      go_wp2
      go_loop [3, 5, 6] (fun a b i => ∃ (j f v : Nat), j ≤ 8 ∧ a = .int .u32 (f : Int) ∧ b = .int .u64 (v : Int) ∧ i = .int .i64 (j : Int) ∧ f < 4294967296 ∧ v < 18446744073709551616 ∧ wnk (8 - j) f v = wnk 8 g (ubits x)) (fun _ _ i => 8 - (intOf i).toNat)
      case atStart => exact ⟨0, g, ubits x, by omega, rfl, u64_eq (by rw [IntKind.wrap_u64]; unfold ubits; omega), rfl, hg, ubits_lt x, rfl⟩
      case round =>
        obtain ⟨j, f, v, hj, rfl, rfl, rfl, hf, hv, hq⟩ := hrel
        have HQ : Hid (wnk (8 - j) f v = wnk 8 g (ubits x)) := hq
        clear hq
        by_cases hlt2 : j < 8
        · go_wp2
          go_round
          case rel =>
            refine ⟨j + 1, stp f v, v / 256, by omega, u32_eq (rstep f v hf), u64_eq (by simp), by go_num, stp_lt v hf, by omega, ?_⟩
            have e : 8 - j = (8 - (j + 1)) + 1 := by omega
            have := HQ.out
            rw [e] at this
            exact this
          case measure => simp [intOf]; omega
        · go_wp2
          go_round
          case rel =>
            refine ⟨k + 1, wnk 8 g (ubits x), by omega, u32_eq ?_, by go_num, wnk_lt 8 _ hg, ?_⟩
            · have := HQ.out
              rw [show 8 - j = 0 by omega] at this
              simp only [wnk] at this
              rw [this]; rfl
            · rw [HX.out, ← sumv_step g l k]
              exact HW.out
          case measure => simp [intOf]; omega
    · go_wp2
      go_ret
      refine ⟨ret_u32 ?_, rfl⟩
      have := HW.out
      rw [List.drop_of_length_le (by rw [HN.out]; omega)] at this
      rw [← this]; rfl
end Go.Proofs.Ytcncpefdjgnhdaa
