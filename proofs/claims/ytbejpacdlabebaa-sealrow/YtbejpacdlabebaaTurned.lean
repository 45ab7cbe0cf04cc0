/-
  The law SealTurned, walked.
-/
import Derived.Test.YtbejpacdlabebaaBegun
namespace Go.Proofs.Ytbejpacdlabebaa
open Go.ChangeShapes Go.WideShapes Go.ChangeAt Go.RowKit
attribute [local go_sem ↓] Go.wp_at_zero Go.wp_at_succ

theorem own_set {w : World} {base : Nat} {p : Option Addr} {c : Nat} {l : List Int} (h : Own eI w base 2 p c l) (k : Nat) (hk : k < l.length) :
    ∃ b, p = some ⟨b, 0, none⟩ ∧ base ≤ b ∧ b < w.heap.size ∧ w.frozen? ⟨b, k, none⟩ = false ∧ w.cell? ⟨b, k, none⟩ = some (.int .i64 l[k]) ∧ ∀ v, Own eI (w.setCell ⟨b, k, none⟩ (.int .i64 v)) base 2 p c (l.set k v) := by
  have hc := (own_rd h).num k hk
  rcases h.2 with ⟨h1, h2⟩ | ⟨g, cap, cur, h1, h2, h3, h4, h5, h6, h7⟩
  · simp only [Value.slice.injEq] at h1
    omega
  · simp only [Value.slice.injEq, true_and] at h1
    obtain ⟨rfl, rfl⟩ := h1
    obtain ⟨b', o', e', _, hcell⟩ := hc
    cases e'
    refine ⟨g, rfl, h2, (Array.getElem?_eq_some_iff.1 h3).1, by simp [World.frozen?, h3], by rw [Nat.zero_add] at hcell; exact hcell, fun v => ?_⟩
    refine ⟨fl_length eI _, .inr ⟨g, c, cur.setIfInBounds k (.int .i64 v), by simp, h2, ?_, by simpa using h4, h5, by simpa using h6, ?_⟩⟩
    · rw [setCell_eq_setRow w g k _ _ _ _ h3]
      exact setRow_heap w g _ _ _ _ h3
    · have e1 : (fl eI (l.set k v)) = (fl eI l).set k (.int .i64 v) := by rw [flI, flI, List.map_set]
      rw [e1, ← h7, Array.toList_setIfInBounds, List.length_set, List.take_set]
theorem own_none {w : World} : Own eI (w.alloc (.cells #[] 2)) w.heap.size 2 (some ⟨w.heap.size, 0, none⟩) 0 [] := own_block (Nat.le_refl _) rfl 0 rfl (by decide)

theorem ne_cast {a b : Nat} (h : a ≠ b) : ((a : Int) != (b : Int)) = true := by rw [bne_iff_ne]; omega
theorem ofInt_bits (x : Int) : (BitVec.ofInt 64 x).toNat = ubits x := by
  rw [BitVec.toNat_ofInt]; rfl
theorem ubits_wrap (x : Int) : ubits (wrap64 x) = ubits x := by unfold ubits wrap64; omega
theorem ubits_xor (x z : Int) : ubits (bits .xor .i64 x z) = ubits x ^^^ ubits z := by
  have hx : ubits x ^^^ ubits z < 2 ^ 64 := Nat.xor_lt_two_pow (ubits_lt x) (ubits_lt z)
  show ubits (IntKind.i64.wrap ((BitVec.ofInt 64 x ^^^ BitVec.ofInt 64 z).toNat : Int)) = _
  rw [BitVec.toNat_xor, ofInt_bits, ofInt_bits]
  generalize ubits x ^^^ ubits z = q at *
  rw [IntKind.wrap_i64]
  unfold ubits; omega
theorem ubits_byte (y b : Int) (hy0 : 0 ≤ y) (hy1 : y ≤ 255) : ubits (wrap64 (y * 2 ^ (8 * (b % 8)).toNat)) = y.toNat * 256 ^ (b % 8).toNat := by
  rw [ubits_wrap]
  obtain ⟨t, ht⟩ : ∃ t, b % 8 = t := ⟨_, rfl⟩
  have hc : t = 0 ∨ t = 1 ∨ t = 2 ∨ t = 3 ∨ t = 4 ∨ t = 5 ∨ t = 6 ∨ t = 7 := by omega
  rw [ht]
  rcases hc with rfl | rfl | rfl | rfl | rfl | rfl | rfl | rfl <;> (simp [ubits]; omega)
theorem turned_ne (x y b : Int) (hy0 : 0 < y) (hy1 : y ≤ 255) (g : Nat) (hg : g < 4294967296) : wnk 8 g (ubits (bits .xor .i64 x (wrap64 (y * 2 ^ (8 * (b % 8)).toNat)))) ≠ wnk 8 g (ubits x) := by
  rw [ubits_xor, ubits_byte y b (by omega) hy1]
  exact wnk_ne _ 8 g _ _ hg (by omega) (by omega) (by omega)

set_option maxHeartbeats 1000000 in
theorem turned_walk (p : Option Addr) (c : Nat) (l : List Int) (w : World) (hr : Rd eI w p c l) (n : Nat) (hn : l.length = n) (hm : n ≤ 9223372036854775807) (a b y : Int) (ha0 : 0 ≤ a) (ha1 : a ≤ 255) (hb0 : 0 ≤ b) (hb1 : b ≤ 255) (hy0 : 0 ≤ y) (hy1 : y ≤ 255) :
    Calls Try.prog 4 #[.slice p n c, .int .u8 a, .int .u8 b, .int .u8 y] w fun e w' => e = .returned (.bool true) ∧ Below w.heap.size w w' := by
  have HN : Hid (l.length = n) := hn
  clear hn
  by_cases h : 30 < n
  · have d1 : decide ((30 : Int) < (n : Int)) = true := by simp; omega
    go_enter Try.func4, Try.ntmps4
    go_wp2_with (go_at_call 7; refine (begun_any _).mono ?_; rintro e w1 ⟨rfl, b1⟩)
    go_ret
    exact ⟨rfl, b1⟩
  have d1 : decide ((30 : Int) < (n : Int)) = false := by simp; omega
  by_cases h0 : n = 0
  · have d2 : ((n : Int) == 0) = true := by simp; omega
    clear h0
    go_enter Try.func4, Try.ntmps4
    go_wp2_with (go_at_call 7; refine (begun_any _).mono ?_; rintro e w1 ⟨rfl, b1⟩)
    go_ret
    exact ⟨rfl, b1⟩
  have d2 : ((n : Int) == 0) = false := by simp; omega
  by_cases h2 : y = 0
  · have d3 : (y == 0) = true := by simp; omega
    clear h2
    go_enter Try.func4, Try.ntmps4
    go_wp2_with (go_at_call 7; refine (begun_any _).mono ?_; rintro e w1 ⟨rfl, b1⟩)
    go_ret
    exact ⟨rfl, b1⟩
  have d3 : (y == 0) = false := by simp; omega
  obtain ⟨j, hj⟩ : ∃ j : Nat, a % (n : Int) = j := ⟨(a % (n : Int)).toNat, by have := Int.emod_nonneg a (show (n : Int) ≠ 0 by omega); omega⟩
  have hjM : j < n := by have := Int.emod_lt_of_pos a (show 0 < (n : Int) by omega); omega
  go_enter Try.func4, Try.ntmps4
  go_wp2_with (first
    | (go_at_call 7; refine (begun_any _).mono ?_; rintro e w1 ⟨rfl, b1⟩; have hr1 := hr.below b1; have z1 := b1.size)
    | (at_builtin; refine wpList_app tI _ rfl _ _ rfl _ _ _ [] 0 rfl rfl own_none _ _ l n HN.out rfl (hr1.below ((Below.refl _ _).alloc (Nat.le_refl _) _)) (by omega) (by simp) n (by omega) ?_; intro p2 c2 w2 o2 b2 st2
       rw [List.nil_append] at o2
       obtain ⟨g, hg, hg1, hg2, hfz, hu, hown⟩ := own_set o2 j (by rw [HN.out]; exact hjM)
       have hne : ∀ x, x = l[j]'(by rw [HN.out]; exact hjM) → sumv seed (l.set j (bits BinOp.xor IntKind.i64 x (wrap64 (y * 2 ^ (8 * (b % 8)).toNat)))) ≠ sumv seed l := fun x hx => sumv_ne seed_lt l j (by rw [HN.out]; exact hjM) _ (fun q hq => by rw [hx]; exact turned_ne _ y b (by omega) hy1 q hq)
       have hne := hne _ rfl
       have hown := hown (bits BinOp.xor IntKind.i64 (l[j]'(by rw [HN.out]; exact hjM)) (wrap64 (y * 2 ^ (8 * (b % 8)).toNat)))
       have hlen : (l.set j (bits BinOp.xor IntKind.i64 (l[j]'(by rw [HN.out]; exact hjM)) (wrap64 (y * 2 ^ (8 * (b % 8)).toNat)))).length = n := by rw [List.length_set]; exact HN.out
       have HL : Hid ((l.set j (bits BinOp.xor IntKind.i64 (l[j]'(by rw [HN.out]; exact hjM)) (wrap64 (y * 2 ^ (8 * (b % 8)).toNat)))).length = n) := hlen
       have hB2 : Below w1.heap.size w1 w2 := ((Below.refl _ _).alloc (Nat.le_refl _) _).trans (b2.mono (by simp))
       have hB3 := hB2.setCell (p := ⟨g, j, none⟩) hg1 (.int .i64 (bits BinOp.xor IntKind.i64 (l[j]'(by rw [HN.out]; exact hjM)) (wrap64 (y * 2 ^ (8 * (b % 8)).toNat))))
       have hrd := own_rd hown
       have hr3 := hr1.below hB3
       have hv : (((sumv seed (l.set j (bits BinOp.xor IntKind.i64 (l[j]'(by rw [HN.out]; exact hjM)) (wrap64 (y * 2 ^ (8 * (b % 8)).toNat)))) : Nat) : Int) != ((sumv seed l : Nat) : Int)) = true := ne_cast hne
       clear hne hlen
       cases hg)
    | (go_at_call 8; (with_reducible (refine (sum_any _ _ _ _ hrd n HL.out hm _ rfl).mono ?_)); (rintro e w' ⟨rfl, rfl⟩))
    | (go_at_call 8; (with_reducible (refine (sum_any _ _ _ _ hr3 n HN.out hm _ rfl).mono ?_)); (rintro e w' ⟨rfl, rfl⟩)))
  go_ret
  exact ⟨rfl, b1.trans (hB3.mono z1)⟩
end Go.Proofs.Ytbejpacdlabebaa
