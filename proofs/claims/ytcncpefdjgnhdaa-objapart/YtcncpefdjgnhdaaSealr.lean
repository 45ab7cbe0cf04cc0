/-
  What the document's Seal hands back.
-/
import Derived.Test.YtcncpefdjgnhdaaSums
namespace Go.Proofs.Ytcncpefdjgnhdaa
open Go.ChangeShapes Go.WideShapes Go.ChangeAt Go.RowKit
attribute [local go_sem ↓] Go.wp_at_zero Go.wp_at_succ

set_option maxHeartbeats 2000000 in
theorem seal_any (x : Tc) (t : Th) (w : World) (ho : Ok w x t) (S : Nat) (hS : sealOf t = S) :
    Calls Try.prog 46 #[.agg #[.int .i64 x.k, .int .i64 x.a, .int .i64 x.g, .int .i64 x.c, .int .i64 x.h, .slice x.lp x.ln x.lc, .slice x.wp x.wn x.wc, .int .u32 (x.b : Int), .slice x.fp x.fn x.fc, .int .u32 (x.s : Int)]] w fun e w' => e = .returned (.int .u32 (S : Int)) ∧ Below w.heap.size w w' := by
  have HS : Hid (sealOf t = S) := hS
  clear hS
  obtain ⟨W, hW⟩ : ∃ W, W = w.alloc (.cells #[.int .i64 x.k, .int .i64 x.a, .int .i64 x.g, .int .i64 x.c, .int .i64 x.h, .slice x.lp x.ln x.lc, .slice x.wp x.wn x.wc, .int .u32 (x.b : Int), .slice x.fp x.fn x.fc, .int .u32 (x.s : Int)] 56) := ⟨_, rfl⟩
  have bW : Below w.heap.size w W := by rw [hW]; exact bel_self _ _
  have hsz : W.heap.size = w.heap.size + 1 := by rw [hW]; simp
  have HZ : Hid (W.heap.size = w.heap.size + 1) := hsz
  have hV0 : Vt W w.heap.size x 56 := by rw [hW]; exact Vt.new _ _ _
  have HO := ho.below bW
  have hl9 := ho.l9
  have hw9 := ho.w9
  have hf9 := ho.f9
  have hb9 := ho.b9
  have HLN : Hid (t.L.length = x.ln) := ho.ln
  have HWN : Hid (t.W.length = x.wn) := ho.wn
  have HFN : Hid (t.F.length = x.fn) := ho.fn
  have HU : Hid (UL t.F) := ho.U
  have rL := HO.L
  have rW := HO.W
  have rF := HO.F
  have HP : Hid (sparts t = [x.k, x.a, x.g, x.c, x.h, (x.ln : Int)] ++ t.L ++ [(x.wn : Int)] ++ t.W ++ [(x.b : Int)] ++ fce t.F) := by
    show _ = _
    unfold sparts
    rw [ho.k, ho.a, ho.g, ho.c, ho.h, ho.ln, ho.wn, ho.b]
  clear ho HO
  obtain ⟨A6, hA6⟩ : ∃ A6, A6 = [x.k, x.a, x.g, x.c, x.h, (x.ln : Int)] := ⟨_, rfl⟩
  have l6 : A6.length = 6 := by rw [hA6]; rfl
  have HA6 : Hid (A6 = [x.k, x.a, x.g, x.c, x.h, (x.ln : Int)]) := hA6
  obtain ⟨Y, hY⟩ : ∃ Y, Y = W.alloc (.cells #[.int .i64 x.k, .int .i64 x.a, .int .i64 x.g, .int .i64 x.c, .int .i64 x.h, .int .i64 x.ln] 2) := ⟨_, rfl⟩
  have r0 : Own eI Y W.heap.size 2 (some ⟨w.heap.size + 1, 0, none⟩) 6 A6 := by rw [hY, hA6]; exact own_blockg hsz (by omega) rfl 6 rfl (by decide)
  have s0 : Below W.heap.size W Y := by rw [hY]; exact bel_self _ _
  clear hA6
  have V1 := hV0.below s0
  have R1 := rL.below s0
  have lY : w.heap.size + 1 < Y.heap.size := by rw [hY]; simp [hsz]
  have fB : Far (some ⟨w.heap.size + 1, 0, none⟩) Y.heap.size := Far.high r0 (Nat.le_refl _)
  have bA : Below W.heap.size W Y.drew := s0.drew
  have bB : Below W.heap.size W (Y.alloc (.cells #[.int .i64 x.wn] 2)).drew := (s0.alloc s0.size _).drew
  have oA : Own eI Y.drew W.heap.size 2 (some ⟨w.heap.size + 1, 0, none⟩) 6 A6 := own_below r0 (Below.refl _ _).drew
  have oB : Own eI (Y.alloc (.cells #[.int .i64 x.wn] 2)).drew W.heap.size 2 (some ⟨w.heap.size + 1, 0, none⟩) 6 A6 := own_below r0 (bel_self _ _).drew
  have rA : Rd eI Y.drew x.lp x.lc t.L := R1.below (Below.refl _ _).drew
  have rB : Rd eI (Y.alloc (.cells #[.int .i64 x.wn] 2)).drew x.lp x.lc t.L := R1.below (bel_self _ _).drew
  have LB : Lv (Y.alloc (.cells #[.int .i64 x.wn] 2)).drew Y.heap.size #[.int .i64 x.wn] 2 := Lv.draw (Lv.new _ _ _)
  obtain ⟨n2, hn2⟩ : ∃ n2, 6 + x.ln = n2 := ⟨_, rfl⟩
  obtain ⟨n3, hn3⟩ : ∃ n3, n2 + 1 = n3 := ⟨_, rfl⟩
  have h12 : n3 ≤ 107 := by omega
  have h22 : n2 + 1 ≤ 2000 := by omega
  have h62 : 6 + x.ln ≤ 2000 := by omega
  have l7 : (A6 ++ t.L).length = n2 := by rw [List.length_append, l6, HLN.out, hn2]
  have H8 : Hid ((A6 ++ t.L ++ [(x.wn : Int)]).length = n3) := by show _ = _; rw [List.length_append, l7, ← hn3]; rfl
  have HN2 : Hid (6 + x.ln = n2) := hn2
  have HN3 : Hid (n2 + 1 = n3) := hn3
  obtain ⟨d0, d1, d2, d3, d4, d5, d6, d7, d8, d9⟩ := V1.at
  obtain ⟨_, _, _, _, _, e5, e6, _, _, _⟩ := (V1.below (bel_self Y (.cells #[.int .i64 x.wn] 2))).at
  clear hn2 hn3 R1 V1
  go_enter Try.func46, Try.ntmps46
  have zA := bA.size
  have zB := bB.size
  have d1' := hV0.at
  go_wp2
  rw [← hW]
  simp only [← hY]
  clear hY hW
  refine wp_region_held_drew (S := fun w' => Below W.heap.size W w') (by kernel_rfl) s0.drew (fun hHeld => ?_)
  refine wpAnyH_take (i := 0) (oi := _) (v := ?_) rfl (by kernel_rfl) (by kernel_rfl) (by kernel_rfl) (fun _ _ _ h => h) (Or.inl ⟨by rfl, ?_⟩) hHeld ?_
  rotate_left
  · intro w' hSw
    (go_simp <;> with_reducible rfl)
  try simp only [Act.put, List.getElem_toArray, List.getElem_cons_zero, List.setIfInBounds_toArray, List.set_cons_zero, List.set_cons_succ]
  refine wpAnyH_take (i := 1) (oi := _) (v := ?_) rfl (by kernel_rfl) (by kernel_rfl) (by kernel_rfl) (fun _ _ _ h => h) (Or.inl ⟨by rfl, ?_⟩) hHeld ?_
  rotate_left
  · intro w' hSw
    (go_simp <;> with_reducible rfl)
  try simp only [Act.put, List.getElem_toArray, List.getElem_cons_succ, List.getElem_cons_zero, List.setIfInBounds_toArray, List.set_cons_zero, List.set_cons_succ]
  refine wpAnyH_take (i := 2) (oi := _) (v := ?_) rfl (by kernel_rfl) (by kernel_rfl) (by kernel_rfl) (fun _ _ _ h => h) (Or.inl ⟨by rfl, ?_⟩) hHeld ?_
  rotate_left
  · intro w' hSw
    (go_simp <;> with_reducible rfl)
  try simp only [Act.put, List.getElem_toArray, List.getElem_cons_succ, List.getElem_cons_zero, List.setIfInBounds_toArray, List.set_cons_zero, List.set_cons_succ]
  refine wpAnyH_take (i := 3) (oi := _) (v := ?_) rfl (by kernel_rfl) (by kernel_rfl) (by kernel_rfl) (fun _ _ _ h => h) (Or.inl ⟨by rfl, ?_⟩) hHeld ?_
  rotate_left
  · intro w' hSw
    obtain ⟨_, _, _, _, _, d5, d6, _, _, _⟩ := (hV0.below hSw).at
    (go_simp <;> with_reducible rfl)
  try simp only [Act.put, List.getElem_toArray, List.getElem_cons_succ, List.getElem_cons_zero, List.setIfInBounds_toArray, List.set_cons_zero, List.set_cons_succ]
  refine wpAnyH_take (i := 5) (oi := _) (v := ?_) rfl (by kernel_rfl) (by kernel_rfl) (by kernel_rfl) (fun _ _ _ h => h) (Or.inl ⟨by rfl, ?_⟩) hHeld ?_
  rotate_left
  · intro w' hSw
    (go_simp <;> with_reducible rfl)
  try simp only [Act.put, List.getElem_toArray, List.getElem_cons_succ, List.getElem_cons_zero, List.setIfInBounds_toArray, List.set_cons_zero, List.set_cons_succ]
  refine wpAnyH_take (i := 6) (oi := _) (v := ?_) rfl (by kernel_rfl) (by kernel_rfl) (by kernel_rfl) (fun _ _ _ h => h) (Or.inl ⟨by rfl, ?_⟩) hHeld ?_
  rotate_left
  · intro w' hSw
    (go_simp <;> with_reducible rfl)
  try simp only [Act.put, List.getElem_toArray, List.getElem_cons_succ, List.getElem_cons_zero, List.setIfInBounds_toArray, List.set_cons_zero, List.set_cons_succ]
  refine wpAnyH_take (i := 7) (oi := _) (v := ?_) rfl (by kernel_rfl) (by kernel_rfl) (by kernel_rfl) (fun _ _ _ h => h) (Or.inl ⟨by rfl, ?_⟩) hHeld ?_
  rotate_left
  · intro w' hSw
    obtain ⟨_, _, _, _, _, d5, d6, _, _, _⟩ := (hV0.below hSw).at
    (go_simp <;> with_reducible rfl)
  try simp only [Act.put, List.getElem_toArray, List.getElem_cons_succ, List.getElem_cons_zero, List.setIfInBounds_toArray, List.set_cons_zero, List.set_cons_succ]
  refine wpAnyH_take (i := 8) (oi := _) (v := ?_) rfl (by kernel_rfl) (by kernel_rfl) (by kernel_rfl) (fun _ _ _ h => h) (Or.inl ⟨by rfl, ?_⟩) hHeld ?_
  rotate_left
  · intro w' hSw
    (go_simp <;> with_reducible rfl)
  try simp only [Act.put, List.getElem_toArray, List.getElem_cons_succ, List.getElem_cons_zero, List.setIfInBounds_toArray, List.set_cons_zero, List.set_cons_succ]
  refine wpAnyH_ready (rs := [4, 9]) (by kernel_rfl) (by simp) ?_
  refine AllReadyH.cons (o := _) rfl (fun K hK => ?_) (AllReadyH.cons (o := _) rfl (fun K hK => ?_) (AllReadyH.nil))
  · refine step_app tL _ rfl _ _ rfl W.heap.size _ _ A6 6 l6 rfl oA x.lp x.lc t.L x.ln HLN.out rfl rA h62 zA n2 HN2.out ?_
    intro p2 c2 w2 o2 b2 g2
    have B2 : Below W.heap.size W w2 := bA.trans b2
    refine hK.out _ _ B2 (fun hHeld => ?_)
    clear hK K
    try simp only [Act.put, List.getElem_toArray, List.getElem_cons_succ, List.getElem_cons_zero, List.setIfInBounds_toArray, List.set_cons_zero, List.set_cons_succ]
    refine wpAnyH_ready (rs := [9]) (by kernel_rfl) (by simp) ?_
    refine AllReadyH.cons (o := _) rfl (fun K hK => ?_) (AllReadyH.nil)
    go_simp
    have B2a := B2.alloc B2.size (.cells #[.int .i64 x.wn] 2)
    refine hK.out _ _ B2a (fun hHeld => ?_)
    clear hK K
    try simp only [Act.put, List.getElem_toArray, List.getElem_cons_succ, List.getElem_cons_zero, List.setIfInBounds_toArray, List.set_cons_zero, List.set_cons_succ]
    refine wpAnyH_ready (rs := [10]) (by kernel_rfl) (by simp) ?_
    refine AllReadyH.cons (o := _) rfl (fun K hK => ?_) (AllReadyH.nil)
    refine step_app tL _ rfl _ _ rfl W.heap.size p2 c2 (A6 ++ t.L) n2 l7 rfl (own_below o2 (bel_self _ _)) (some ⟨w2.heap.size, 0, none⟩) 1 [(x.wn : Int)] 1 rfl rfl (rd_block (heap_alloc_new _ _) 1 rfl rfl) h22 B2a.size n3 HN3.out ?_
    intro p3 c3 w3 o3 b3 g3
    have B3 : Below W.heap.size W w3 := B2a.trans b3
    refine hK.out _ _ B3 (fun hHeld => ?_)
    clear hK K
    try simp only [Act.put, List.getElem_toArray, List.getElem_cons_succ, List.getElem_cons_zero, List.setIfInBounds_toArray, List.set_cons_zero, List.set_cons_succ]
    refine wpAnyH_take (i := 11) (oi := _) (v := ?_) rfl (by kernel_rfl) (by kernel_rfl) (by kernel_rfl) (fun _ _ _ h => h) (Or.inl ⟨by rfl, ?_⟩) hHeld ?_
    rotate_left
    · intro w' hSw
      (go_simp <;> with_reducible rfl)
    try simp only [Act.put, List.getElem_toArray, List.getElem_cons_succ, List.getElem_cons_zero, List.setIfInBounds_toArray, List.set_cons_zero, List.set_cons_succ]
    refine wpAnyH_done (by kernel_rfl) ?_ _
    clear rA rB oA oB bA bB LB r0 s0 l7 B2 o2 b2 g2 b3 g3 zA zB fB d0 d1 d2 d3 d4 d5 d6 d7 d8 d9 e5 e6 hHeld
    obtain ⟨A, hA⟩ : ∃ A, A = A6 ++ t.L ++ [(x.wn : Int)] := ⟨_, rfl⟩
    have HA : Hid (A = A6 ++ t.L ++ [(x.wn : Int)]) := hA
    have HAL : Hid (A.length = n3) := by show _ = _; rw [hA]; exact H8.out
    rw [← hA] at o3
    clear hA
    go_wp2
    go_loopw [3, 4] (fun q i wr => ∃ (k n : Nat) (p : Option Addr) (c : Nat), k ≤ x.wn ∧ i = .int .i64 k ∧ q = .slice p n c ∧ n3 + k = n ∧ Own eI wr W.heap.size 2 p c (A ++ t.W.take k) ∧ Below W.heap.size W wr) (fun _ i _ => x.wn - (intOf i).toNat)
    case atStart => exact ⟨0, n3, p3, c3, Nat.zero_le _, rfl, rfl, rfl, by simpa using o3, B3⟩
    case round =>
      obtain ⟨k, n, p, c, hk, rfl, rfl, hn, oq, hbw⟩ := hrel
      have V4 := hV0.below hbw
      obtain ⟨d0, d1, d2, d3, d4, d5, d6, d7, d8, d9⟩ := V4.at
      by_cases hlt : k < x.wn
      · have hkl : k < t.W.length := by rw [HWN.out]; exact hlt
        have hnx := take_nx t.W k hkl
        have ll : (A ++ t.W.take k).length = n := by rw [List.length_append, HAL.out, List.length_take, HWN.out, Nat.min_eq_left hk, hn]
        obtain ⟨bb, o, e9, hb, hc⟩ := (rW.below hbw).num k hkl
        rw [e9] at d6
        generalize t.W[k] = z at *
        have HX : Hid (t.W.take (k + 1) = t.W.take k ++ [z]) := hnx
        have hn9 : n ≤ 210 := by omega
        obtain ⟨m, hm⟩ : ∃ m, n + 1 = m := ⟨_, rfl⟩
        clear hnx e9
        go_wp2_with (at_builtin; refine wpList_app tL _ rfl _ _ rfl W.heap.size p c _ n ll rfl (own_below oq (bel_self _ _)) _ _ [z] 1 rfl rfl (rd_block (heap_alloc_new _ _) 1 rfl rfl) (by omega) (Nat.le_trans hbw.size (bel_self _ _).size) m hm ?_; intro p5 c5 w5 o5 b5 g5)
        go_roundw
        case rel => exact ⟨k + 1, m, p5, c5, by omega, by go_num, rfl, by omega, by rw [HX.out, ← List.append_assoc]; exact o5, (hbw.alloc hbw.size _).trans b5⟩
        case measure => simp [intOf]; omega
      · have hkn : k = x.wn := by omega
        have hl : t.W.take k = t.W := by rw [hkn, ← HWN.out, List.take_length]
        rw [hl] at oq
        have ll : (A ++ t.W).length = n := by rw [List.length_append, HAL.out, HWN.out, ← hkn, hn]
        have hn9 : n ≤ 210 := by omega
        clear hl
        have hZ : (x.wn : Int) = (k : Int) := by rw [hkn]
        obtain ⟨m, hm⟩ : ∃ m, n + 1 = m := ⟨_, rfl⟩
        go_wp2_with (at_builtin; refine wpList_app tL _ rfl _ _ rfl W.heap.size p c _ n ll rfl (own_below oq (bel_self _ _)) _ _ [(x.b : Int)] 1 rfl rfl (rd_block (heap_alloc_new _ _) 1 rfl rfl) (by omega) (Nat.le_trans hbw.size (bel_self _ _).size) m hm ?_; intro p5 c5 w5 o5 b5 g5; have B5 : Below W.heap.size W w5 := (hbw.alloc hbw.size _).trans b5; have V5 := hV0.below B5; clear d0 d1 d2 d3 d4 d5 d6 d7 d8 d9; obtain ⟨d0, d1, d2, d3, d4, d5, d6, d7, d8, d9⟩ := V5.at)
        clear d0 d1 d2 d3 d4 d5 d6 d7 d8 d9 V4 V5 oq hbw
        have HAW : Hid ((A ++ t.W ++ [(x.b : Int)]).length = m) := by show _ = _; rw [List.length_append, ll, ← hm]; rfl
        have hm9 : m ≤ 211 := by omega
        clear hm ll hZ hkn hn
        go_loopw [3, 5] (fun q i wr => ∃ (k n : Nat) (p : Option Addr) (c : Nat), k ≤ x.fn ∧ i = .int .i64 k ∧ q = .slice p n c ∧ m + 2 * k = n ∧ Own eI wr W.heap.size 2 p c (A ++ t.W ++ [(x.b : Int)] ++ fce (t.F.take k)) ∧ Below W.heap.size W wr) (fun _ i _ => x.fn - (intOf i).toNat)
        case atStart => exact ⟨0, m, p5, c5, Nat.zero_le _, rfl, rfl, rfl, by simpa [fce] using o5, B5⟩
        case round =>
          obtain ⟨j, n, p, c, hj, rfl, rfl, hn, oq, hbw⟩ := hrel
          have V4 := hV0.below hbw
          obtain ⟨d0, d1, d2, d3, d4, d5, d6, d7, d8, d9⟩ := V4.at
          by_cases hlt : j < x.fn
          · have hkl : j < t.F.length := by rw [HFN.out]; exact hlt
            have hnx := take_nx t.F j hkl
            have hu := HU.out _ (List.getElem_mem hkl)
            have ll : (A ++ t.W ++ [(x.b : Int)] ++ fce (t.F.take j)).length = n := by rw [List.length_append, HAW.out, fce_length, List.length_take, HFN.out, Nat.min_eq_left hj, hn]
            obtain ⟨bb, o, e9, hb, hc, hd⟩ := rF.wt j hkl
            rw [e9] at d8
            generalize t.F[j] = z at *
            have HX : Hid (fce (t.F.take (j + 1)) = fce (t.F.take j) ++ [z.1, (z.2 : Int)]) := by show _ = _; rw [hnx, fce_append]; rfl
            have hn9 : n + 2 ≤ 2000 := by omega
            obtain ⟨m2, hm2⟩ : ∃ m2, n + 2 = m2 := ⟨_, rfl⟩
            have HWP : Hid (x.fp = some ⟨bb, o, none⟩) := e9
            have hwz : IntKind.i64.wrap ((z.2 : Nat) : Int) = (z.2 : Int) := by rw [IntKind.wrap_i64]; omega
            clear hnx e9
            go_wp2
            refine wp_region_held_drew (S := fun w' => Below W.heap.size W w') (by kernel_rfl) hbw.drew (fun hHeld => ?_)
            refine wpAnyH_take (i := 0) (oi := _) (v := ?_) rfl (by kernel_rfl) (by kernel_rfl) (by kernel_rfl) (fun _ _ _ h => h) (Or.inl ⟨by rfl, ?_⟩) hHeld ?_
            rotate_left
            · intro w' hSw
              (go_simp <;> with_reducible rfl)
            try simp only [Act.put, List.getElem_toArray, List.getElem_cons_zero, List.setIfInBounds_toArray, List.set_cons_zero, List.set_cons_succ]
            refine wpAnyH_take (i := 1) (oi := _) (v := ?_) rfl (by kernel_rfl) (by kernel_rfl) (by kernel_rfl) (fun _ _ _ h => h) (Or.inl ⟨by rfl, ?_⟩) hHeld ?_
            rotate_left
            · intro w' hSw
              (go_simp <;> with_reducible rfl)
            try simp only [Act.put, List.getElem_toArray, List.getElem_cons_succ, List.getElem_cons_zero, List.setIfInBounds_toArray, List.set_cons_zero, List.set_cons_succ]
            refine wpAnyH_take (i := 2) (oi := _) (v := ?_) rfl (by kernel_rfl) (by kernel_rfl) (by kernel_rfl) (fun _ _ _ h => h) (Or.inl ⟨by rfl, ?_⟩) hHeld ?_
            rotate_left
            · intro w' hSw
              (go_simp <;> with_reducible rfl)
            try simp only [Act.put, List.getElem_toArray, List.getElem_cons_succ, List.getElem_cons_zero, List.setIfInBounds_toArray, List.set_cons_zero, List.set_cons_succ]
            refine wpAnyH_take (i := 3) (oi := _) (v := ?_) rfl (by kernel_rfl) (by kernel_rfl) (by kernel_rfl) (fun _ _ _ h => h) (Or.inl ⟨by rfl, ?_⟩) hHeld ?_
            rotate_left
            · intro w' hSw
              obtain ⟨_, _, _, _, _, _, _, _, d8, _⟩ := (hV0.below hSw).at
              rw [HWP.out] at d8
              have hc' := (hSw.cell (p := ⟨bb, o + j * 2, none⟩) hb).trans hc
              have hd' := (hSw.cell (p := ⟨bb, o + j * 2 + 1, none⟩) hb).trans hd
              (go_simp <;> with_reducible rfl)
            try simp only [Act.put, List.getElem_toArray, List.getElem_cons_succ, List.getElem_cons_zero, List.setIfInBounds_toArray, List.set_cons_zero, List.set_cons_succ]
            refine wpAnyH_take (i := 4) (oi := _) (v := ?_) rfl (by kernel_rfl) (by kernel_rfl) (by kernel_rfl) (fun _ _ _ h => h) (Or.inl ⟨by rfl, ?_⟩) hHeld ?_
            rotate_left
            · intro w' hSw
              (go_simp <;> with_reducible rfl)
            try simp only [Act.put, List.getElem_toArray, List.getElem_cons_succ, List.getElem_cons_zero, List.setIfInBounds_toArray, List.set_cons_zero, List.set_cons_succ]
            refine wpAnyH_take (i := 5) (oi := _) (v := ?_) rfl (by kernel_rfl) (by kernel_rfl) (by kernel_rfl) (fun _ _ _ h => h) (Or.inl ⟨by rfl, ?_⟩) hHeld ?_
            rotate_left
            · intro w' hSw
              (go_simp <;> with_reducible rfl)
            try simp only [Act.put, List.getElem_toArray, List.getElem_cons_succ, List.getElem_cons_zero, List.setIfInBounds_toArray, List.set_cons_zero, List.set_cons_succ]
            refine wpAnyH_take (i := 6) (oi := _) (v := ?_) rfl (by kernel_rfl) (by kernel_rfl) (by kernel_rfl) (fun _ _ _ h => h) (Or.inl ⟨by rfl, ?_⟩) hHeld ?_
            rotate_left
            · intro w' hSw
              (go_simp <;> with_reducible rfl)
            try simp only [Act.put, List.getElem_toArray, List.getElem_cons_succ, List.getElem_cons_zero, List.setIfInBounds_toArray, List.set_cons_zero, List.set_cons_succ]
            refine wpAnyH_take (i := 7) (oi := _) (v := ?_) rfl (by kernel_rfl) (by kernel_rfl) (by kernel_rfl) (fun _ _ _ h => h) (Or.inl ⟨by rfl, ?_⟩) hHeld ?_
            rotate_left
            · intro w' hSw
              obtain ⟨_, _, _, _, _, _, _, _, d8, _⟩ := (hV0.below hSw).at
              rw [HWP.out] at d8
              have hc' := (hSw.cell (p := ⟨bb, o + j * 2, none⟩) hb).trans hc
              have hd' := (hSw.cell (p := ⟨bb, o + j * 2 + 1, none⟩) hb).trans hd
              (go_simp <;> with_reducible rfl)
            try simp only [Act.put, List.getElem_toArray, List.getElem_cons_succ, List.getElem_cons_zero, List.setIfInBounds_toArray, List.set_cons_zero, List.set_cons_succ]
            refine wpAnyH_take (i := 8) (oi := _) (v := ?_) rfl (by kernel_rfl) (by kernel_rfl) (by kernel_rfl) (fun _ _ _ h => h) (Or.inl ⟨by rfl, ?_⟩) hHeld ?_
            rotate_left
            · intro w' hSw
              (go_simp <;> with_reducible rfl)
            try simp only [Act.put, List.getElem_toArray, List.getElem_cons_succ, List.getElem_cons_zero, List.setIfInBounds_toArray, List.set_cons_zero, List.set_cons_succ]
            refine wpAnyH_take (i := 9) (oi := _) (v := ?_) rfl (by kernel_rfl) (by kernel_rfl) (by kernel_rfl) (fun _ _ _ h => h) (Or.inl ⟨by rfl, ?_⟩) hHeld ?_
            rotate_left
            · intro w' hSw
              (go_simp <;> with_reducible rfl)
            try simp only [Act.put, List.getElem_toArray, List.getElem_cons_succ, List.getElem_cons_zero, List.setIfInBounds_toArray, List.set_cons_zero, List.set_cons_succ]
            refine wpAnyH_take (i := 10) (oi := _) (v := ?_) rfl (by kernel_rfl) (by kernel_rfl) (by kernel_rfl) (fun _ _ _ h => h) (Or.inl ⟨by rfl, ?_⟩) hHeld ?_
            rotate_left
            · intro w' hSw
              obtain ⟨_, _, _, _, _, _, _, _, d8, _⟩ := (hV0.below hSw).at
              rw [HWP.out] at d8
              have hc' := (hSw.cell (p := ⟨bb, o + j * 2, none⟩) hb).trans hc
              have hd' := (hSw.cell (p := ⟨bb, o + j * 2 + 1, none⟩) hb).trans hd
              (go_simp <;> with_reducible rfl)
            try simp only [Act.put, List.getElem_toArray, List.getElem_cons_succ, List.getElem_cons_zero, List.setIfInBounds_toArray, List.set_cons_zero, List.set_cons_succ]
            refine wpAnyH_take (i := 11) (oi := _) (v := ?_) rfl (by kernel_rfl) (by kernel_rfl) (by kernel_rfl) (fun _ _ _ h => h) (Or.inl ⟨by rfl, ?_⟩) hHeld ?_
            rotate_left
            · intro w' hSw
              (go_simp <;> with_reducible rfl)
            try simp only [Act.put, List.getElem_toArray, List.getElem_cons_succ, List.getElem_cons_zero, List.setIfInBounds_toArray, List.set_cons_zero, List.set_cons_succ]
            refine wpAnyH_take (i := 12) (oi := _) (v := ?_) rfl (by kernel_rfl) (by kernel_rfl) (by kernel_rfl) (fun _ _ _ h => h) (Or.inl ⟨by rfl, ?_⟩) hHeld ?_
            rotate_left
            · intro w' hSw
              (go_simp <;> with_reducible rfl)
            try simp only [Act.put, List.getElem_toArray, List.getElem_cons_succ, List.getElem_cons_zero, List.setIfInBounds_toArray, List.set_cons_zero, List.set_cons_succ]
            refine wpAnyH_take (i := 13) (oi := _) (v := ?_) rfl (by kernel_rfl) (by kernel_rfl) (by kernel_rfl) (fun _ _ _ h => h) (Or.inl ⟨by rfl, ?_⟩) hHeld ?_
            rotate_left
            · intro w' hSw
              (go_simp <;> with_reducible rfl)
            try simp only [Act.put, List.getElem_toArray, List.getElem_cons_succ, List.getElem_cons_zero, List.setIfInBounds_toArray, List.set_cons_zero, List.set_cons_succ]
            refine wpAnyH_take (i := 14) (oi := _) (v := ?_) rfl (by kernel_rfl) (by kernel_rfl) (by kernel_rfl) (fun _ _ _ h => h) (Or.inl ⟨by rfl, ?_⟩) hHeld ?_
            rotate_left
            · intro w' hSw
              obtain ⟨_, _, _, _, _, _, _, _, d8, _⟩ := (hV0.below hSw).at
              rw [HWP.out] at d8
              have hc' := (hSw.cell (p := ⟨bb, o + j * 2, none⟩) hb).trans hc
              have hd' := (hSw.cell (p := ⟨bb, o + j * 2 + 1, none⟩) hb).trans hd
              (go_simp <;> with_reducible rfl)
            try simp only [Act.put, List.getElem_toArray, List.getElem_cons_succ, List.getElem_cons_zero, List.setIfInBounds_toArray, List.set_cons_zero, List.set_cons_succ]
            refine wpAnyH_take (i := 15) (oi := _) (v := ?_) rfl (by kernel_rfl) (by kernel_rfl) (by kernel_rfl) (fun _ _ _ h => h) (Or.inl ⟨by rfl, ?_⟩) hHeld ?_
            rotate_left
            · intro w' hSw
              (go_simp <;> with_reducible rfl)
            try simp only [Act.put, List.getElem_toArray, List.getElem_cons_succ, List.getElem_cons_zero, List.setIfInBounds_toArray, List.set_cons_zero, List.set_cons_succ]
            refine wpAnyH_ready (rs := [16]) (by kernel_rfl) (by simp) ?_
            refine AllReadyH.cons (o := _) rfl (fun K hK => ?_) (AllReadyH.nil)
            go_simp
            have bA : Below W.heap.size W (wr.alloc (.cells #[.int .i64 z.1, .int .i64 (z.2 : Int)] 2)).drew := (hbw.alloc hbw.size _).drew
            have eA : Own eI (wr.alloc (.cells #[.int .i64 z.1, .int .i64 (z.2 : Int)] 2)).drew W.heap.size 2 p c (A ++ t.W ++ [(x.b : Int)] ++ fce (t.F.take j)) := own_below oq (bel_self _ _).drew
            have fA : Rd eI (wr.alloc (.cells #[.int .i64 z.1, .int .i64 (z.2 : Int)] 2)).drew (some ⟨wr.heap.size, 0, none⟩) 2 [z.1, (z.2 : Int)] := (rd_block (E := eI) (heap_alloc_new wr (.cells #[.int .i64 z.1, .int .i64 (z.2 : Int)] 2)) 2 rfl rfl).below (Below.refl _ _).drew
            refine hK.out _ _ bA (fun hHeld => ?_)
            clear hK K
            try simp only [Act.put, List.getElem_toArray, List.getElem_cons_succ, List.getElem_cons_zero, List.setIfInBounds_toArray, List.set_cons_zero, List.set_cons_succ]
            refine wpAnyH_ready (rs := [17]) (by kernel_rfl) (by simp) ?_
            refine AllReadyH.cons (o := _) rfl (fun K hK => ?_) (AllReadyH.nil)
            refine step_app tL _ rfl _ _ rfl W.heap.size p c _ n ll rfl eA _ _ [z.1, (z.2 : Int)] 2 rfl rfl fA hn9 bA.size m2 hm2 ?_
            intro p6 c6 w6 o6 b6 g6
            have B6 := bA.trans b6
            refine hK.out _ _ B6 (fun hHeld => ?_)
            clear hK K
            try simp only [Act.put, List.getElem_toArray, List.getElem_cons_succ, List.getElem_cons_zero, List.setIfInBounds_toArray, List.set_cons_zero, List.set_cons_succ]
            refine wpAnyH_take (i := 18) (oi := _) (v := ?_) rfl (by kernel_rfl) (by kernel_rfl) (by kernel_rfl) (fun _ _ _ h => h) (Or.inl ⟨by rfl, ?_⟩) hHeld ?_
            rotate_left
            · intro w' hSw
              (go_simp <;> with_reducible rfl)
            try simp only [Act.put, List.getElem_toArray, List.getElem_cons_succ, List.getElem_cons_zero, List.setIfInBounds_toArray, List.set_cons_zero, List.set_cons_succ]
            refine wpAnyH_done (by kernel_rfl) ?_ _
            go_wp2
            go_roundw
            case rel => exact ⟨j + 1, m2, p6, c6, by omega, by go_num, rfl, by omega, by rw [HX.out, ← List.append_assoc]; exact o6, B6⟩
            case measure => simp [intOf]; omega
          · have hjn : j = x.fn := by omega
            have hl : t.F.take j = t.F := by rw [hjn, ← HFN.out, List.take_length]
            rw [hl] at oq
            have ll : (A ++ t.W ++ [(x.b : Int)] ++ fce t.F).length = n := by rw [List.length_append, HAW.out, fce_length, HFN.out, ← hjn, hn]
            have e1 : sumv seed (A ++ t.W ++ [(x.b : Int)] ++ fce t.F) = S := by
              rw [← HS.out]
              unfold sealOf
              rw [HP.out, HA.out, HA6.out]
            have hn9 : n ≤ 430 := by omega
            clear hl
            have hZ : (x.fn : Int) = (j : Int) := by rw [hjn]
            go_wp2_with (go_at_call 71; refine (rssum_any _ _ _ _ (own_rd oq) n ll (by omega) S e1).mono ?_; rintro e wz ⟨rfl, rfl⟩)
            go_ret
            exact ⟨rfl, bel_call bW (Nat.le_refl _) (hbw.mono (Nat.le_refl _))⟩
  · go_simp
    refine hK.out _ _ bB (fun hHeld => ?_)
    clear hK K
    try simp only [Act.put, List.getElem_toArray, List.getElem_cons_succ, List.getElem_cons_zero, List.setIfInBounds_toArray, List.set_cons_zero, List.set_cons_succ]
    refine wpAnyH_ready (rs := [4]) (by kernel_rfl) (by simp) ?_
    refine AllReadyH.cons (o := _) rfl (fun K hK => ?_) (AllReadyH.nil)
    refine step_app tL _ rfl _ _ rfl W.heap.size _ _ A6 6 l6 rfl oB x.lp x.lc t.L x.ln HLN.out rfl rB h62 zB n2 HN2.out ?_
    intro p2 c2 w2 o2 b2 g2
    have B2 : Below W.heap.size W w2 := bB.trans b2
    have L2 := Lv.grew LB g2 fB
    refine hK.out _ _ B2 (fun hHeld => ?_)
    clear hK K
    try simp only [Act.put, List.getElem_toArray, List.getElem_cons_succ, List.getElem_cons_zero, List.setIfInBounds_toArray, List.set_cons_zero, List.set_cons_succ]
    refine wpAnyH_ready (rs := [10]) (by kernel_rfl) (by simp) ?_
    refine AllReadyH.cons (o := _) rfl (fun K hK => ?_) (AllReadyH.nil)
    refine step_app tL _ rfl _ _ rfl W.heap.size p2 c2 (A6 ++ t.L) n2 l7 rfl o2 (some ⟨Y.heap.size, 0, none⟩) 1 [(x.wn : Int)] 1 rfl rfl (rd_block L2 1 rfl rfl) h22 B2.size n3 HN3.out ?_
    intro p3 c3 w3 o3 b3 g3
    have B3 : Below W.heap.size W w3 := B2.trans b3
    refine hK.out _ _ B3 (fun hHeld => ?_)
    clear hK K
    try simp only [Act.put, List.getElem_toArray, List.getElem_cons_succ, List.getElem_cons_zero, List.setIfInBounds_toArray, List.set_cons_zero, List.set_cons_succ]
    refine wpAnyH_take (i := 11) (oi := _) (v := ?_) rfl (by kernel_rfl) (by kernel_rfl) (by kernel_rfl) (fun _ _ _ h => h) (Or.inl ⟨by rfl, ?_⟩) hHeld ?_
    rotate_left
    · intro w' hSw
      (go_simp <;> with_reducible rfl)
    try simp only [Act.put, List.getElem_toArray, List.getElem_cons_succ, List.getElem_cons_zero, List.setIfInBounds_toArray, List.set_cons_zero, List.set_cons_succ]
    refine wpAnyH_done (by kernel_rfl) ?_ _
    clear rA rB oA oB bA bB LB r0 s0 l7 B2 o2 b2 g2 b3 g3 zA zB fB d0 d1 d2 d3 d4 d5 d6 d7 d8 d9 e5 e6 hHeld
    obtain ⟨A, hA⟩ : ∃ A, A = A6 ++ t.L ++ [(x.wn : Int)] := ⟨_, rfl⟩
    have HA : Hid (A = A6 ++ t.L ++ [(x.wn : Int)]) := hA
    have HAL : Hid (A.length = n3) := by show _ = _; rw [hA]; exact H8.out
    rw [← hA] at o3
    clear hA
    go_wp2
    go_loopw [3, 4] (fun q i wr => ∃ (k n : Nat) (p : Option Addr) (c : Nat), k ≤ x.wn ∧ i = .int .i64 k ∧ q = .slice p n c ∧ n3 + k = n ∧ Own eI wr W.heap.size 2 p c (A ++ t.W.take k) ∧ Below W.heap.size W wr) (fun _ i _ => x.wn - (intOf i).toNat)
    case atStart => exact ⟨0, n3, p3, c3, Nat.zero_le _, rfl, rfl, rfl, by simpa using o3, B3⟩
    case round =>
      obtain ⟨k, n, p, c, hk, rfl, rfl, hn, oq, hbw⟩ := hrel
      have V4 := hV0.below hbw
      obtain ⟨d0, d1, d2, d3, d4, d5, d6, d7, d8, d9⟩ := V4.at
      by_cases hlt : k < x.wn
      · have hkl : k < t.W.length := by rw [HWN.out]; exact hlt
        have hnx := take_nx t.W k hkl
        have ll : (A ++ t.W.take k).length = n := by rw [List.length_append, HAL.out, List.length_take, HWN.out, Nat.min_eq_left hk, hn]
        obtain ⟨bb, o, e9, hb, hc⟩ := (rW.below hbw).num k hkl
        rw [e9] at d6
        generalize t.W[k] = z at *
        have HX : Hid (t.W.take (k + 1) = t.W.take k ++ [z]) := hnx
        have hn9 : n ≤ 210 := by omega
        obtain ⟨m, hm⟩ : ∃ m, n + 1 = m := ⟨_, rfl⟩
        clear hnx e9
        go_wp2_with (at_builtin; refine wpList_app tL _ rfl _ _ rfl W.heap.size p c _ n ll rfl (own_below oq (bel_self _ _)) _ _ [z] 1 rfl rfl (rd_block (heap_alloc_new _ _) 1 rfl rfl) (by omega) (Nat.le_trans hbw.size (bel_self _ _).size) m hm ?_; intro p5 c5 w5 o5 b5 g5)
        go_roundw
        case rel => exact ⟨k + 1, m, p5, c5, by omega, by go_num, rfl, by omega, by rw [HX.out, ← List.append_assoc]; exact o5, (hbw.alloc hbw.size _).trans b5⟩
        case measure => simp [intOf]; omega
      · have hkn : k = x.wn := by omega
        have hl : t.W.take k = t.W := by rw [hkn, ← HWN.out, List.take_length]
        rw [hl] at oq
        have ll : (A ++ t.W).length = n := by rw [List.length_append, HAL.out, HWN.out, ← hkn, hn]
        have hn9 : n ≤ 210 := by omega
        clear hl
        have hZ : (x.wn : Int) = (k : Int) := by rw [hkn]
        obtain ⟨m, hm⟩ : ∃ m, n + 1 = m := ⟨_, rfl⟩
        go_wp2_with (at_builtin; refine wpList_app tL _ rfl _ _ rfl W.heap.size p c _ n ll rfl (own_below oq (bel_self _ _)) _ _ [(x.b : Int)] 1 rfl rfl (rd_block (heap_alloc_new _ _) 1 rfl rfl) (by omega) (Nat.le_trans hbw.size (bel_self _ _).size) m hm ?_; intro p5 c5 w5 o5 b5 g5; have B5 : Below W.heap.size W w5 := (hbw.alloc hbw.size _).trans b5; have V5 := hV0.below B5; clear d0 d1 d2 d3 d4 d5 d6 d7 d8 d9; obtain ⟨d0, d1, d2, d3, d4, d5, d6, d7, d8, d9⟩ := V5.at)
        clear d0 d1 d2 d3 d4 d5 d6 d7 d8 d9 V4 V5 oq hbw
        have HAW : Hid ((A ++ t.W ++ [(x.b : Int)]).length = m) := by show _ = _; rw [List.length_append, ll, ← hm]; rfl
        have hm9 : m ≤ 211 := by omega
        clear hm ll hZ hkn hn
        go_loopw [3, 5] (fun q i wr => ∃ (k n : Nat) (p : Option Addr) (c : Nat), k ≤ x.fn ∧ i = .int .i64 k ∧ q = .slice p n c ∧ m + 2 * k = n ∧ Own eI wr W.heap.size 2 p c (A ++ t.W ++ [(x.b : Int)] ++ fce (t.F.take k)) ∧ Below W.heap.size W wr) (fun _ i _ => x.fn - (intOf i).toNat)
        case atStart => exact ⟨0, m, p5, c5, Nat.zero_le _, rfl, rfl, rfl, by simpa [fce] using o5, B5⟩
        case round =>
          obtain ⟨j, n, p, c, hj, rfl, rfl, hn, oq, hbw⟩ := hrel
          have V4 := hV0.below hbw
          obtain ⟨d0, d1, d2, d3, d4, d5, d6, d7, d8, d9⟩ := V4.at
          by_cases hlt : j < x.fn
          · have hkl : j < t.F.length := by rw [HFN.out]; exact hlt
            have hnx := take_nx t.F j hkl
            have hu := HU.out _ (List.getElem_mem hkl)
            have ll : (A ++ t.W ++ [(x.b : Int)] ++ fce (t.F.take j)).length = n := by rw [List.length_append, HAW.out, fce_length, List.length_take, HFN.out, Nat.min_eq_left hj, hn]
            obtain ⟨bb, o, e9, hb, hc, hd⟩ := rF.wt j hkl
            rw [e9] at d8
            generalize t.F[j] = z at *
            have HX : Hid (fce (t.F.take (j + 1)) = fce (t.F.take j) ++ [z.1, (z.2 : Int)]) := by show _ = _; rw [hnx, fce_append]; rfl
            have hn9 : n + 2 ≤ 2000 := by omega
            obtain ⟨m2, hm2⟩ : ∃ m2, n + 2 = m2 := ⟨_, rfl⟩
            have HWP : Hid (x.fp = some ⟨bb, o, none⟩) := e9
            have hwz : IntKind.i64.wrap ((z.2 : Nat) : Int) = (z.2 : Int) := by rw [IntKind.wrap_i64]; omega
            clear hnx e9
            go_wp2
            refine wp_region_held_drew (S := fun w' => Below W.heap.size W w') (by kernel_rfl) hbw.drew (fun hHeld => ?_)
            refine wpAnyH_take (i := 0) (oi := _) (v := ?_) rfl (by kernel_rfl) (by kernel_rfl) (by kernel_rfl) (fun _ _ _ h => h) (Or.inl ⟨by rfl, ?_⟩) hHeld ?_
            rotate_left
            · intro w' hSw
              (go_simp <;> with_reducible rfl)
            try simp only [Act.put, List.getElem_toArray, List.getElem_cons_zero, List.setIfInBounds_toArray, List.set_cons_zero, List.set_cons_succ]
            refine wpAnyH_take (i := 1) (oi := _) (v := ?_) rfl (by kernel_rfl) (by kernel_rfl) (by kernel_rfl) (fun _ _ _ h => h) (Or.inl ⟨by rfl, ?_⟩) hHeld ?_
            rotate_left
            · intro w' hSw
              (go_simp <;> with_reducible rfl)
            try simp only [Act.put, List.getElem_toArray, List.getElem_cons_succ, List.getElem_cons_zero, List.setIfInBounds_toArray, List.set_cons_zero, List.set_cons_succ]
            refine wpAnyH_take (i := 2) (oi := _) (v := ?_) rfl (by kernel_rfl) (by kernel_rfl) (by kernel_rfl) (fun _ _ _ h => h) (Or.inl ⟨by rfl, ?_⟩) hHeld ?_
            rotate_left
            · intro w' hSw
              (go_simp <;> with_reducible rfl)
            try simp only [Act.put, List.getElem_toArray, List.getElem_cons_succ, List.getElem_cons_zero, List.setIfInBounds_toArray, List.set_cons_zero, List.set_cons_succ]
            refine wpAnyH_take (i := 3) (oi := _) (v := ?_) rfl (by kernel_rfl) (by kernel_rfl) (by kernel_rfl) (fun _ _ _ h => h) (Or.inl ⟨by rfl, ?_⟩) hHeld ?_
            rotate_left
            · intro w' hSw
              obtain ⟨_, _, _, _, _, _, _, _, d8, _⟩ := (hV0.below hSw).at
              rw [HWP.out] at d8
              have hc' := (hSw.cell (p := ⟨bb, o + j * 2, none⟩) hb).trans hc
              have hd' := (hSw.cell (p := ⟨bb, o + j * 2 + 1, none⟩) hb).trans hd
              (go_simp <;> with_reducible rfl)
            try simp only [Act.put, List.getElem_toArray, List.getElem_cons_succ, List.getElem_cons_zero, List.setIfInBounds_toArray, List.set_cons_zero, List.set_cons_succ]
            refine wpAnyH_take (i := 4) (oi := _) (v := ?_) rfl (by kernel_rfl) (by kernel_rfl) (by kernel_rfl) (fun _ _ _ h => h) (Or.inl ⟨by rfl, ?_⟩) hHeld ?_
            rotate_left
            · intro w' hSw
              (go_simp <;> with_reducible rfl)
            try simp only [Act.put, List.getElem_toArray, List.getElem_cons_succ, List.getElem_cons_zero, List.setIfInBounds_toArray, List.set_cons_zero, List.set_cons_succ]
            refine wpAnyH_take (i := 5) (oi := _) (v := ?_) rfl (by kernel_rfl) (by kernel_rfl) (by kernel_rfl) (fun _ _ _ h => h) (Or.inl ⟨by rfl, ?_⟩) hHeld ?_
            rotate_left
            · intro w' hSw
              (go_simp <;> with_reducible rfl)
            try simp only [Act.put, List.getElem_toArray, List.getElem_cons_succ, List.getElem_cons_zero, List.setIfInBounds_toArray, List.set_cons_zero, List.set_cons_succ]
            refine wpAnyH_take (i := 6) (oi := _) (v := ?_) rfl (by kernel_rfl) (by kernel_rfl) (by kernel_rfl) (fun _ _ _ h => h) (Or.inl ⟨by rfl, ?_⟩) hHeld ?_
            rotate_left
            · intro w' hSw
              (go_simp <;> with_reducible rfl)
            try simp only [Act.put, List.getElem_toArray, List.getElem_cons_succ, List.getElem_cons_zero, List.setIfInBounds_toArray, List.set_cons_zero, List.set_cons_succ]
            refine wpAnyH_take (i := 7) (oi := _) (v := ?_) rfl (by kernel_rfl) (by kernel_rfl) (by kernel_rfl) (fun _ _ _ h => h) (Or.inl ⟨by rfl, ?_⟩) hHeld ?_
            rotate_left
            · intro w' hSw
              obtain ⟨_, _, _, _, _, _, _, _, d8, _⟩ := (hV0.below hSw).at
              rw [HWP.out] at d8
              have hc' := (hSw.cell (p := ⟨bb, o + j * 2, none⟩) hb).trans hc
              have hd' := (hSw.cell (p := ⟨bb, o + j * 2 + 1, none⟩) hb).trans hd
              (go_simp <;> with_reducible rfl)
            try simp only [Act.put, List.getElem_toArray, List.getElem_cons_succ, List.getElem_cons_zero, List.setIfInBounds_toArray, List.set_cons_zero, List.set_cons_succ]
            refine wpAnyH_take (i := 8) (oi := _) (v := ?_) rfl (by kernel_rfl) (by kernel_rfl) (by kernel_rfl) (fun _ _ _ h => h) (Or.inl ⟨by rfl, ?_⟩) hHeld ?_
            rotate_left
            · intro w' hSw
              (go_simp <;> with_reducible rfl)
            try simp only [Act.put, List.getElem_toArray, List.getElem_cons_succ, List.getElem_cons_zero, List.setIfInBounds_toArray, List.set_cons_zero, List.set_cons_succ]
            refine wpAnyH_take (i := 9) (oi := _) (v := ?_) rfl (by kernel_rfl) (by kernel_rfl) (by kernel_rfl) (fun _ _ _ h => h) (Or.inl ⟨by rfl, ?_⟩) hHeld ?_
            rotate_left
            · intro w' hSw
              (go_simp <;> with_reducible rfl)
            try simp only [Act.put, List.getElem_toArray, List.getElem_cons_succ, List.getElem_cons_zero, List.setIfInBounds_toArray, List.set_cons_zero, List.set_cons_succ]
            refine wpAnyH_take (i := 10) (oi := _) (v := ?_) rfl (by kernel_rfl) (by kernel_rfl) (by kernel_rfl) (fun _ _ _ h => h) (Or.inl ⟨by rfl, ?_⟩) hHeld ?_
            rotate_left
            · intro w' hSw
              obtain ⟨_, _, _, _, _, _, _, _, d8, _⟩ := (hV0.below hSw).at
              rw [HWP.out] at d8
              have hc' := (hSw.cell (p := ⟨bb, o + j * 2, none⟩) hb).trans hc
              have hd' := (hSw.cell (p := ⟨bb, o + j * 2 + 1, none⟩) hb).trans hd
              (go_simp <;> with_reducible rfl)
            try simp only [Act.put, List.getElem_toArray, List.getElem_cons_succ, List.getElem_cons_zero, List.setIfInBounds_toArray, List.set_cons_zero, List.set_cons_succ]
            refine wpAnyH_take (i := 11) (oi := _) (v := ?_) rfl (by kernel_rfl) (by kernel_rfl) (by kernel_rfl) (fun _ _ _ h => h) (Or.inl ⟨by rfl, ?_⟩) hHeld ?_
            rotate_left
            · intro w' hSw
              (go_simp <;> with_reducible rfl)
            try simp only [Act.put, List.getElem_toArray, List.getElem_cons_succ, List.getElem_cons_zero, List.setIfInBounds_toArray, List.set_cons_zero, List.set_cons_succ]
            refine wpAnyH_take (i := 12) (oi := _) (v := ?_) rfl (by kernel_rfl) (by kernel_rfl) (by kernel_rfl) (fun _ _ _ h => h) (Or.inl ⟨by rfl, ?_⟩) hHeld ?_
            rotate_left
            · intro w' hSw
              (go_simp <;> with_reducible rfl)
            try simp only [Act.put, List.getElem_toArray, List.getElem_cons_succ, List.getElem_cons_zero, List.setIfInBounds_toArray, List.set_cons_zero, List.set_cons_succ]
            refine wpAnyH_take (i := 13) (oi := _) (v := ?_) rfl (by kernel_rfl) (by kernel_rfl) (by kernel_rfl) (fun _ _ _ h => h) (Or.inl ⟨by rfl, ?_⟩) hHeld ?_
            rotate_left
            · intro w' hSw
              (go_simp <;> with_reducible rfl)
            try simp only [Act.put, List.getElem_toArray, List.getElem_cons_succ, List.getElem_cons_zero, List.setIfInBounds_toArray, List.set_cons_zero, List.set_cons_succ]
            refine wpAnyH_take (i := 14) (oi := _) (v := ?_) rfl (by kernel_rfl) (by kernel_rfl) (by kernel_rfl) (fun _ _ _ h => h) (Or.inl ⟨by rfl, ?_⟩) hHeld ?_
            rotate_left
            · intro w' hSw
              obtain ⟨_, _, _, _, _, _, _, _, d8, _⟩ := (hV0.below hSw).at
              rw [HWP.out] at d8
              have hc' := (hSw.cell (p := ⟨bb, o + j * 2, none⟩) hb).trans hc
              have hd' := (hSw.cell (p := ⟨bb, o + j * 2 + 1, none⟩) hb).trans hd
              (go_simp <;> with_reducible rfl)
            try simp only [Act.put, List.getElem_toArray, List.getElem_cons_succ, List.getElem_cons_zero, List.setIfInBounds_toArray, List.set_cons_zero, List.set_cons_succ]
            refine wpAnyH_take (i := 15) (oi := _) (v := ?_) rfl (by kernel_rfl) (by kernel_rfl) (by kernel_rfl) (fun _ _ _ h => h) (Or.inl ⟨by rfl, ?_⟩) hHeld ?_
            rotate_left
            · intro w' hSw
              (go_simp <;> with_reducible rfl)
            try simp only [Act.put, List.getElem_toArray, List.getElem_cons_succ, List.getElem_cons_zero, List.setIfInBounds_toArray, List.set_cons_zero, List.set_cons_succ]
            refine wpAnyH_ready (rs := [16]) (by kernel_rfl) (by simp) ?_
            refine AllReadyH.cons (o := _) rfl (fun K hK => ?_) (AllReadyH.nil)
            go_simp
            have bA : Below W.heap.size W (wr.alloc (.cells #[.int .i64 z.1, .int .i64 (z.2 : Int)] 2)).drew := (hbw.alloc hbw.size _).drew
            have eA : Own eI (wr.alloc (.cells #[.int .i64 z.1, .int .i64 (z.2 : Int)] 2)).drew W.heap.size 2 p c (A ++ t.W ++ [(x.b : Int)] ++ fce (t.F.take j)) := own_below oq (bel_self _ _).drew
            have fA : Rd eI (wr.alloc (.cells #[.int .i64 z.1, .int .i64 (z.2 : Int)] 2)).drew (some ⟨wr.heap.size, 0, none⟩) 2 [z.1, (z.2 : Int)] := (rd_block (E := eI) (heap_alloc_new wr (.cells #[.int .i64 z.1, .int .i64 (z.2 : Int)] 2)) 2 rfl rfl).below (Below.refl _ _).drew
            refine hK.out _ _ bA (fun hHeld => ?_)
            clear hK K
            try simp only [Act.put, List.getElem_toArray, List.getElem_cons_succ, List.getElem_cons_zero, List.setIfInBounds_toArray, List.set_cons_zero, List.set_cons_succ]
            refine wpAnyH_ready (rs := [17]) (by kernel_rfl) (by simp) ?_
            refine AllReadyH.cons (o := _) rfl (fun K hK => ?_) (AllReadyH.nil)
            refine step_app tL _ rfl _ _ rfl W.heap.size p c _ n ll rfl eA _ _ [z.1, (z.2 : Int)] 2 rfl rfl fA hn9 bA.size m2 hm2 ?_
            intro p6 c6 w6 o6 b6 g6
            have B6 := bA.trans b6
            refine hK.out _ _ B6 (fun hHeld => ?_)
            clear hK K
            try simp only [Act.put, List.getElem_toArray, List.getElem_cons_succ, List.getElem_cons_zero, List.setIfInBounds_toArray, List.set_cons_zero, List.set_cons_succ]
            refine wpAnyH_take (i := 18) (oi := _) (v := ?_) rfl (by kernel_rfl) (by kernel_rfl) (by kernel_rfl) (fun _ _ _ h => h) (Or.inl ⟨by rfl, ?_⟩) hHeld ?_
            rotate_left
            · intro w' hSw
              (go_simp <;> with_reducible rfl)
            try simp only [Act.put, List.getElem_toArray, List.getElem_cons_succ, List.getElem_cons_zero, List.setIfInBounds_toArray, List.set_cons_zero, List.set_cons_succ]
            refine wpAnyH_done (by kernel_rfl) ?_ _
            go_wp2
            go_roundw
            case rel => exact ⟨j + 1, m2, p6, c6, by omega, by go_num, rfl, by omega, by rw [HX.out, ← List.append_assoc]; exact o6, B6⟩
            case measure => simp [intOf]; omega
          · have hjn : j = x.fn := by omega
            have hl : t.F.take j = t.F := by rw [hjn, ← HFN.out, List.take_length]
            rw [hl] at oq
            have ll : (A ++ t.W ++ [(x.b : Int)] ++ fce t.F).length = n := by rw [List.length_append, HAW.out, fce_length, HFN.out, ← hjn, hn]
            have e1 : sumv seed (A ++ t.W ++ [(x.b : Int)] ++ fce t.F) = S := by
              rw [← HS.out]
              unfold sealOf
              rw [HP.out, HA.out, HA6.out]
            have hn9 : n ≤ 430 := by omega
            clear hl
            have hZ : (x.fn : Int) = (j : Int) := by rw [hjn]
            go_wp2_with (go_at_call 71; refine (rssum_any _ _ _ _ (own_rd oq) n ll (by omega) S e1).mono ?_; rintro e wz ⟨rfl, rfl⟩)
            go_ret
            exact ⟨rfl, bel_call bW (Nat.le_refl _) (hbw.mono (Nat.le_refl _))⟩
end Go.Proofs.Ytcncpefdjgnhdaa
