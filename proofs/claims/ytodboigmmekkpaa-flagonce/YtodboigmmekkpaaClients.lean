/-
  What Reset and the document's Clients hand back: who waited.
-/
import Derived.Test.YtodboigmmekkpaaDeeds
namespace Go.Proofs.Ytodboigmmekkpaa
open Go.ChangeShapes Go.WideShapes Go.ChangeAt Go.RowKit
attribute [local go_sem ↓] Go.wp_at_zero Go.wp_at_succ

theorem mapTake (l : List Wt) (k : Nat) (h : k < l.length) : (l.take (k + 1)).map (·.1) = (l.take k).map (·.1) ++ [(l[k]).1] := by
  rw [take_next l k h, List.map_append]; rfl
theorem clients_any (b : Nat) (p : Option Addr) (c : Nat) (l : List Wt) (w : World) (h : Rd eW w p c l) (n : Nat) (hn : l.length = n) (hn9 : n ≤ 1000) :
    Calls Try.prog 16 #[.agg #[.int .u32 (b : Int), .slice p n c]] w fun e w' => ∃ (u : Option Addr) (v : Nat), e = .returned (.slice u n v) ∧ Own eI w' w.heap.size 3 u v (l.map (·.1)) ∧ Below w.heap.size w w' := by
  have HN : Hid (l.length = n) := hn
  clear hn
  obtain ⟨W, hW⟩ : ∃ W, W = w.alloc (.cells #[.int .u32 (b : Int), .slice p n c] 25) := ⟨_, rfl⟩
  have bW : Below w.heap.size w W := by rw [hW]; exact bel_self _ _
  have hF0 : Fv W w.heap.size b p n c := by rw [hW]; exact Fv.new _ _ _ _ _
  go_enter Try.func16, Try.ntmps16
  go_wp2
  rw [← hW]
  clear hW
  go_loopw [3, 4] (fun q i wr => ∃ (k : Nat) (u : Option Addr) (v : Nat), k ≤ n ∧ i = .int .i64 k ∧ q = .slice u k v ∧ Own eI wr W.heap.size 3 u v ((l.take k).map (·.1)) ∧ Below W.heap.size W wr) (fun _ i _ => n - (intOf i).toNat)
  case atStart => exact ⟨0, none, 0, Nat.zero_le _, rfl, rfl, own_nil _ _ _, Below.refl _ _⟩
  case round =>
    obtain ⟨k, u, v, hk, rfl, rfl, oU, hbw⟩ := hrel
    have hF := hF0.below hbw
    have c0 := hF.c0
    have c1 := hF.c1
    by_cases hlt : k < n
    · have hkl : k < l.length := by rw [HN.out]; exact hlt
      obtain ⟨bb, o, rfl, hb, hc0, hc1⟩ := (h.below (bel_call bW (Nat.le_refl _) hbw)).wt k hkl
      have hS := mapTake l k hkl
      generalize (l[k]).1 = x at *
      generalize (l[k]).2 = m at *
      have HS : Hid ((l.take (k + 1)).map (·.1) = (l.take k).map (·.1) ++ [x]) := hS
      have HK : Hid (((l.take k).map (·.1)).length = k) := by show _ = _; rw [List.length_map, len_take (by rw [HN.out]; exact hk)]
      clear hS
      generalize (l.take k).map (·.1) = A at *
      go_wp2_with (at_builtin; refine wpList_app tI _ rfl _ _ rfl W.heap.size u v A k HK.out rfl (own_below oU (bel_self _ _)) _ _ [x] 1 rfl rfl (rd_block (heap_alloc_new _ _) 1 rfl rfl) (by omega) (Nat.le_trans hbw.size (bel_self _ _).size) (k + 1) rfl ?_; intro p5 c5 w5 o5 b5 g5)
      go_roundw
      case rel => exact ⟨k + 1, p5, c5, by omega, by go_num, rfl, by rw [HS.out]; exact o5, (hbw.alloc hbw.size _).trans b5⟩
      case measure => simp [intOf]; omega
    · have hkn : k = n := by omega
      subst hkn
      have hl : l.take k = l := by rw [← HN.out, List.take_length]
      rw [hl] at oU
      clear hl
      go_wp2
      go_ret
      exact ⟨_, _, rfl, own_mono oU bW.size, bel_call bW (Nat.le_refl _) hbw⟩
set_option maxHeartbeats 1000000 in
theorem reset_any (b : Nat) (p : Option Addr) (c : Nat) (l : List Wt) (w : World) (h : Rd eW w p c l) (n : Nat) (hn : l.length = n) (hn9 : n ≤ 1000) :
    Calls Try.prog 14 #[.agg #[.int .u32 (b : Int), .slice p n c]] w fun e w' => ∃ (u : Option Addr) (v : Nat), e = .returned (.tuple #[.agg #[.int .u32 0, .slice none 0 0], .slice u n v]) ∧ Own eI w' w.heap.size 3 u v (l.map (·.1)) ∧ Below w.heap.size w w' := by
  obtain ⟨i0, hi0, hz0, hz1, hz2⟩ := info_parts Try.info3
  have HN : Hid (l.length = n) := hn
  clear hn
  obtain ⟨W, hW⟩ : ∃ W, W = (w.alloc (.cells #[.int .u32 (b : Int), .slice p n c] 25)).alloc (.cells #[.int .u32 0, .slice none 0 0] 25) := ⟨_, rfl⟩
  have bW : Below w.heap.size w W := by rw [hW]; exact ((Below.refl _ _).alloc (Nat.le_refl _) _).alloc (by simp) _
  have hr0 : Fv W (w.heap.size + 1) 0 none 0 0 := by rw [hW]; exact heap_at (by simp)
  have hF0 : Fv W w.heap.size b p n c := by rw [hW]; exact (Fv.new _ _ _ _ _).below (bel_self _ _)
  go_enter Try.func14, Try.ntmps14
  go_wp2_with (at_make; rw [← hW]; refine wpList_make_own _ rfl _ _ 31 rfl W.heap.size 3 i0 _ 1 Try.underlying31 hi0 hz0 hz1 _ _ _ n rfl rfl rfl (by rw [hz2]; omega) (by unfold maxLen; omega) (Nat.le_refl _) ?_; intro w1 hown1 hgrow1
               have b1 : Below W.heap.size W w1 := (Below.refl _ _).grown hgrow1 (Nat.le_refl _) (fun k hk => by cases hk)
               have hF1 := hF0.below b1; have c0 := hF1.c0; have c1 := hF1.c1)
  have o1 : Own eI w1 W.heap.size 3 (some ⟨w.heap.size + 1 + 1, 0, none⟩) n [] := by
    have hs : W.heap.size = w.heap.size + 1 + 1 := by rw [hW]; simp
    have h1 := hown1
    rw [hs] at h1 ⊢
    exact h1
  clear hown1 hgrow1 hi0 hz0 hz1 hz2 c0 c1 hF1
  go_loopw [4, 14] (fun q i wr => ∃ (k : Nat) (u : Option Addr) (v : Nat), k ≤ n ∧ i = .int .i64 k ∧ q = .slice u k v ∧ Own eI wr W.heap.size 3 u v ((l.take k).map (·.1)) ∧ Below W.heap.size W wr) (fun _ i _ => n - (intOf i).toNat)
  case atStart => exact ⟨0, _, n, Nat.zero_le _, rfl, rfl, o1, b1⟩
  case round =>
    obtain ⟨k, u, v, hk, rfl, rfl, oU, hbw⟩ := hrel
    by_cases hlt : k < n
    · have hkl : k < l.length := by rw [HN.out]; exact hlt
      obtain ⟨bb, o, rfl, hb, hc0, hc1⟩ := (h.below (bel_call bW (Nat.le_refl _) hbw)).wt k hkl
      have hS := mapTake l k hkl
      generalize (l[k]).1 = x at *
      generalize (l[k]).2 = m at *
      have HS : Hid ((l.take (k + 1)).map (·.1) = (l.take k).map (·.1) ++ [x]) := hS
      have HK : Hid (((l.take k).map (·.1)).length = k) := by show _ = _; rw [List.length_map, len_take (by rw [HN.out]; exact hk)]
      clear hS
      generalize (l.take k).map (·.1) = A at *
      have s1 := bel_self wr (.cells #[.int .i64 x, .int .u32 (m : Int)] 43)
      have s2 := bel_self (wr.alloc (.cells #[.int .i64 x, .int .u32 (m : Int)] 43)) (.cells #[.int .i64 x] 3)
      have rN : Rd eI ((wr.alloc (.cells #[.int .i64 x, .int .u32 (m : Int)] 43)).alloc (.cells #[.int .i64 x] 3)) (some ⟨wr.heap.size + 1, 0, none⟩) 1 [x] := rd_block (heap_at (by simp)) 1 rfl rfl
      go_wp2_with (at_builtin; refine wpList_app tI _ rfl _ _ rfl W.heap.size u v A k HK.out rfl (own_below (own_below oU s1) s2) _ _ [x] 1 rfl rfl rN (by omega) (Nat.le_trans hbw.size (Nat.le_trans s1.size s2.size)) (k + 1) rfl ?_; intro p5 c5 w5 o5 b5 g5)
      go_roundw
      case rel => exact ⟨k + 1, p5, c5, by omega, by go_num, rfl, by rw [HS.out]; exact o5, (bel_call (bel_call hbw (Nat.le_refl _) s1) (Nat.le_refl _) s2).trans b5⟩
      case measure => simp [intOf]; omega
    · have hkn : k = n := by omega
      subst hkn
      have hl : l.take k = l := by rw [← HN.out, List.take_length]
      rw [hl] at oU
      clear hl
      have hr1 := hr0.below hbw
      have x0 := hr1.c0
      have x1 := hr1.c1
      have v0 := hr1.f0
      have v1 := hr1.f1
      go_wp2
      have hr9 : Fv ((wr.setCell ⟨w.heap.size + 1, 0, none⟩ (.int .u32 0)).setCell ⟨w.heap.size + 1, 1, none⟩ (.slice none 0 0)) (w.heap.size + 1) 0 none 0 0 := by
        have := (Lv.set hr1 0 (.int .u32 0)).set 1 (.slice none 0 0)
        simpa [Fv] using this
      have e9 := loadFlag (x := .int .u32 0) (y := .slice none 0 0) hr9
      have fU := Far.type oU hr1 (by decide)
      refine bodyPost_ret (v := .tuple #[.agg #[.int .u32 0, .slice none 0 0], .slice u k v]) (by simp [results, Try.results14, asAddr, e9]) rfl ⟨u, v, rfl, own_setFar (own_setFar (own_mono oU bW.size) fU 0 _) fU 1 _, ?_⟩
      refine Below.setCell (Below.setCell (bel_call bW (Nat.le_refl _) hbw) ?_ _) ?_ _
      · exact Nat.le_succ _
      · exact Nat.le_succ _
end Go.Proofs.Ytodboigmmekkpaa
