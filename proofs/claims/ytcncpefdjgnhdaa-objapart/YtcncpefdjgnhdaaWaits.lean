/-
  What waiting of package obj hands back; copied.
-/
import Derived.Test.YtcncpefdjgnhdaaSmall2
namespace Go.Proofs.Ytcncpefdjgnhdaa
open Go.ChangeShapes Go.WideShapes Go.ChangeAt Go.RowKit
attribute [local go_sem ↓] Go.wp_at_zero Go.wp_at_succ

set_option maxHeartbeats 2000000 in
theorem waiting_any (x : Tc) (t : Th) (w : World) (ho : Ok w x t) (n : Nat) (hn : x.wn + x.fn = n) :
    Calls Try.prog 37 #[.agg #[.int .i64 x.k, .int .i64 x.a, .int .i64 x.g, .int .i64 x.c, .int .i64 x.h, .slice x.lp x.ln x.lc, .slice x.wp x.wn x.wc, .int .u32 (x.b : Int), .slice x.fp x.fn x.fc, .int .u32 (x.s : Int)]] w fun e w' => ∃ (p : Option Addr) (c : Nat), e = .returned (.slice p n c) ∧ Own eI w' w.heap.size 3 p c (waitT t) ∧ Below w.heap.size w w' := by
  obtain ⟨W, hW⟩ : ∃ W, W = w.alloc (.cells #[.int .i64 x.k, .int .i64 x.a, .int .i64 x.g, .int .i64 x.c, .int .i64 x.h, .slice x.lp x.ln x.lc, .slice x.wp x.wn x.wc, .int .u32 (x.b : Int), .slice x.fp x.fn x.fc, .int .u32 (x.s : Int)] 58) := ⟨_, rfl⟩
  have bW : Below w.heap.size w W := by rw [hW]; exact bel_self _ _
  have hV : Vt W w.heap.size x 58 := by rw [hW]; exact Vt.new _ _ _
  have HO := ho.below bW
  have hl9 := ho.l9
  have hw9 := ho.w9
  have hf9 := ho.f9
  have HLN : Hid (t.L.length = x.ln) := ho.ln
  have HWN : Hid (t.W.length = x.wn) := ho.wn
  have HFN : Hid (t.F.length = x.fn) := ho.fn
  have rL := HO.L
  have rW := HO.W
  have rF := HO.F
  have HN : Hid (x.wn + x.fn = n) := hn
  clear ho HO hn
  go_enter Try.func37, Try.ntmps37
  go_wp2_with (first
    | (go_at_call 64; rw [← hW]; refine (boxreset_any _ _ _ _ _ _ _ rW _ HWN.out (by omega)).mono ?_; rintro e w1 ⟨q1, c1, rfl, o1, b1⟩; have V1 := (hV.below b1).below (bel_self w1 (.cells #[.slice none 0 0, .slice none 0 0] 43)); have o1' := own_below o1 (bel_self w1 (.cells #[.slice none 0 0, .slice none 0 0] 43)); obtain ⟨d0, d1, d2, d3, d4, d5, d6, d7, d8, d9⟩ := V1.at; have bA : Below W.heap.size W (w1.alloc (.cells #[.slice none 0 0, .slice none 0 0] 43)) := b1.alloc b1.size _; have r2 := rF.below bA)
    | (go_at_call 65; refine (reset_any _ _ _ _ _ r2 _ HFN.out (by omega)).mono ?_; rintro e w2 ⟨q2, c2, rfl, o2, b2⟩; have o1z := own_below (own_below o1' b2) (bel_self w2 (.cells #[.int .u32 0, .slice none 0 0] 47)); have o2z := own_below o2 (bel_self w2 (.cells #[.int .u32 0, .slice none 0 0] 47)); have bB : Below W.heap.size W (w2.alloc (.cells #[.int .u32 0, .slice none 0 0] 47)) := (bel_call bA (Nat.le_refl _) b2).alloc (bel_call bA (Nat.le_refl _) b2).size _)
    | (at_builtin; refine wpList_app tI _ rfl _ _ rfl W.heap.size q1 c1 t.W x.wn HWN.out rfl o1z _ _ (t.F.map (·.1)) x.fn (by rw [List.length_map]; exact HFN.out) rfl (own_rd o2z) (by omega) bB.size n HN.out ?_; intro p3 c3 w3 o3 b3 g3))
  go_ret
  exact ⟨_, _, rfl, own_mono o3 bW.size, bel_call bW (Nat.le_refl _) (bB.trans b3)⟩
set_option maxHeartbeats 4000000 in
theorem copied_any (x : Tc) (t : Th) (w : World) (ho : Ok w x t) :
    Calls Try.prog 43 #[.agg #[.int .i64 x.k, .int .i64 x.a, .int .i64 x.g, .int .i64 x.c, .int .i64 x.h, .slice x.lp x.ln x.lc, .slice x.wp x.wn x.wc, .int .u32 (x.b : Int), .slice x.fp x.fn x.fc, .int .u32 (x.s : Int)]] w fun e w' => ∃ (p1 : Option Addr) (c1 : Nat) (p2 : Option Addr) (c2 : Nat) (p3 : Option Addr) (c3 : Nat), e = .returned (.agg #[.int .i64 x.k, .int .i64 x.a, .int .i64 x.g, .int .i64 x.c, .int .i64 x.h, .slice p1 x.ln c1, .slice p2 x.wn c2, .int .u32 (x.b : Int), .slice p3 x.fn c3, .int .u32 (x.s : Int)]) ∧ Own eI w' w.heap.size 2 p1 c1 t.L ∧ Own eI w' w.heap.size 3 p2 c2 t.W ∧ Own eW w' w.heap.size 138 p3 c3 t.F ∧ Below w.heap.size w w' := by
  obtain ⟨W, hW⟩ : ∃ W, W = (w.alloc (.cells #[.int .i64 x.k, .int .i64 x.a, .int .i64 x.g, .int .i64 x.c, .int .i64 x.h, .slice x.lp x.ln x.lc, .slice x.wp x.wn x.wc, .int .u32 (x.b : Int), .slice x.fp x.fn x.fc, .int .u32 (x.s : Int)] 58)).alloc (.cells #[.int .i64 0, .int .i64 0, .int .i64 0, .int .i64 0, .int .i64 0, .slice none 0 0, .slice none 0 0, .int .u32 0, .slice none 0 0, .int .u32 0] 58) := ⟨_, rfl⟩
  have bW : Below w.heap.size w W := by rw [hW]; exact ((Below.refl _ _).alloc (Nat.le_refl _) _).alloc (by simp) _
  have hV : Vt W w.heap.size x 58 := by rw [hW]; exact (Vt.new _ _ _).below (bel_self _ _)
  have hR : Lv W (w.heap.size + 1) #[.int .i64 0, .int .i64 0, .int .i64 0, .int .i64 0, .int .i64 0, .slice none 0 0, .slice none 0 0, .int .u32 0, .slice none 0 0, .int .u32 0] 58 := by rw [hW]; exact heap_at (by simp)
  have HO := ho.below bW
  have hl9 := ho.l9
  have hw9 := ho.w9
  have hf9 := ho.f9
  have HLN : Hid (t.L.length = x.ln) := ho.ln
  have HWN : Hid (t.W.length = x.wn) := ho.wn
  have HFN : Hid (t.F.length = x.fn) := ho.fn
  have rL := HO.L
  have rW := HO.W
  have rF := HO.F
  have rF0 := ho.F
  have hsz : W.heap.size = w.heap.size + 2 := by rw [hW]; simp
  clear ho HO
  obtain ⟨d0, d1, d2, d3, d4, d5, d6, d7, d8, d9⟩ := hV.at
  go_enter Try.func43, Try.ntmps43
  go_wp2
  rw [← hW]
  clear hW
  go_region_with (first
    | (go_at_call 69; refine (cloneL _ _ _ _ _ (rL.below (Below.refl _ _).drew) HLN.out (by omega)).mono ?_; rintro e w1 ⟨p1, c1, rfl, o1, b1'⟩; have b1 : Below W.heap.size W w1 := (Below.refl _ _).drew.trans b1'; have V1 := hV.below b1; have R1 := hR.below b1; clear d0 d1 d2 d3 d4 d5 d6 d7 d8 d9; obtain ⟨d0, d1, d2, d3, d4, d5, d6, d7, d8, d9⟩ := V1.at)
    | (go_at_call 59; refine (cloneI _ _ _ _ _ (rW.below b1) HWN.out (by omega)).mono ?_; rintro e w2 ⟨p2, c2, rfl, o2, b2⟩; have V2 := V1.below b2; have R2 := R1.below b2; have o1b := own_below o1 b2; clear d0 d1 d2 d3 d4 d5 d6 d7 d8 d9; obtain ⟨d0, d1, d2, d3, d4, d5, d6, d7, d8, d9⟩ := V2.at; have z5 := V2.z 5; have z6 := V2.z 6))
  all_goals
    have V3 : Vt ((w2.setCell ⟨w.heap.size, 5, none⟩ (.slice p1 x.ln c1)).setCell ⟨w.heap.size, 6, none⟩ (.slice p2 x.wn c2)) w.heap.size { x with lp := p1, lc := c1, wp := p2, wc := c2 } 58 := by
      have := (Lv.set V2 5 (.slice p1 x.ln c1)).set 6 (.slice p2 x.wn c2)
      simpa [Vt] using this
    have hzd : W.drew.heap.size = W.heap.size := rfl
    have s1 := b1.size
    have s2 := b2.size
    have f1 : Far p1 w.heap.size := Far.low o1b (by omega)
    have f2 : Far p2 w.heap.size := Far.low o2 (by omega)
    have o1c := own_setFar (own_setFar o1b f1 5 (.slice p1 x.ln c1)) f1 6 (.slice p2 x.wn c2)
    have o2c := own_setFar (own_setFar o2 f2 5 (.slice p1 x.ln c1)) f2 6 (.slice p2 x.wn c2)
    have R3 := (R2.far (a := ⟨w.heap.size, 5, none⟩) (by simp) (.slice p1 x.ln c1)).far (a := ⟨w.heap.size, 6, none⟩) (by simp) (.slice p2 x.wn c2)
    have b3 : Below w.heap.size w ((w2.setCell ⟨w.heap.size, 5, none⟩ (.slice p1 x.ln c1)).setCell ⟨w.heap.size, 6, none⟩ (.slice p2 x.wn c2)) := Below.setCell (Below.setCell (bel_call (bel_call bW (Nat.le_refl _) b1) (Nat.le_refl _) b2) (p := ⟨w.heap.size, 5, none⟩) (Nat.le_refl _) _) (p := ⟨w.heap.size, 6, none⟩) (Nat.le_refl _) _
    have hz3 : W.heap.size ≤ ((w2.setCell ⟨w.heap.size, 5, none⟩ (.slice p1 x.ln c1)).setCell ⟨w.heap.size, 6, none⟩ (.slice p2 x.wn c2)).heap.size := by simp [World.setCell]; omega
    clear d0 d1 d2 d3 d4 d5 d6 d7 d8 d9 V2 R2 o1b o2 b1' b2 z5 z6 V1 R1 o1 s2 hV hR
    generalize ((w2.setCell ⟨w.heap.size, 5, none⟩ (.slice p1 x.ln c1)).setCell ⟨w.heap.size, 6, none⟩ (.slice p2 x.wn c2)) = W3 at *
    obtain ⟨d0, d1, d2, d3, d4, d5, d6, d7, d8, d9⟩ := V3.at
    go_wp2_with (first
      | (go_at_call 70; refine (cloneW _ _ _ _ _ (rF0.below b3) HFN.out (by omega)).mono ?_; rintro e w4 ⟨p3, c3, rfl, o3, b4⟩; have V4 := V3.below b4; have R4 := R3.below b4; have o1d := own_below o1c b4; have o2d := own_below o2c b4; clear d0 d1 d2 d3 d4 d5 d6 d7 d8 d9; obtain ⟨d0, d1, d2, d3, d4, d5, d6, d7, d8, d9⟩ := V4.at; have z8 := V4.z 8)
      | (refine wpList_stV (E := eT) rfl 58 (.tmp 2) (.tmp 19) rfl size58 (w.heap.size + 1) _ (R4.far (a := ⟨w.heap.size, 8, none⟩) (by simp) _) rfl { x with lp := p1, lc := c1, wp := p2, wc := c2, fp := p3, fc := c3 } rfl rfl ?_; intro w5 L5 k5))
    have e9 := load58 L5
    have s4 := b4.size
    have f3 : Far p3 w.heap.size := Far.low o3 (by omega)
    have b5 : Below w.heap.size w w5 := bel_kp (Below.setCell (bel_call b3 (Nat.le_refl _) b4) (p := ⟨w.heap.size, 8, none⟩) (Nat.le_refl _) (.slice p3 x.fn c3)) k5 (Nat.le_succ _) (by simp [World.setCell]; omega)
    refine bodyPost_ret (v := .agg #[.int .i64 x.k, .int .i64 x.a, .int .i64 x.g, .int .i64 x.c, .int .i64 x.h, .slice p1 x.ln c1, .slice p2 x.wn c2, .int .u32 (x.b : Int), .slice p3 x.fn c3, .int .u32 (x.s : Int)]) (by simp [results, Try.results43, asAddr, Act.put, e9]) rfl ⟨p1, c1, p2, c2, p3, c3, rfl, ?_, ?_, ?_, b5⟩
    · exact own_mono (own_kp (own_setFar o1d f1 8 _) k5 (by omega)) bW.size
    · exact own_mono (own_kp (own_setFar o2d f2 8 _) k5 (by omega)) (by omega)
    · exact own_mono (own_kp (own_setFar o3 f3 8 _) k5 (by omega)) (by omega)
end Go.Proofs.Ytcncpefdjgnhdaa
