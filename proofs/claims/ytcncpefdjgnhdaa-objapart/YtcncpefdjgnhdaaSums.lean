/-
  What sum of package obj and the document's Seal hand back.
-/
import Derived.Test.YtcncpefdjgnhdaaLows
import Derived.Test.YtcncpefdjgnhdaaSeals
namespace Go.Proofs.Ytcncpefdjgnhdaa
open Go.ChangeShapes Go.WideShapes Go.ChangeAt Go.RowKit
attribute [local go_sem ↓] Go.wp_at_zero Go.wp_at_succ

theorem take_nx {α : Type} (l : List α) (k : Nat) (h : k < l.length) : l.take (k + 1) = l.take k ++ [l[k]] := List.take_succ_eq_append_getElem h
set_option maxHeartbeats 2000000 in
theorem sum_any (x : Tc) (t : Th) (w : World) (ho : Ok w x t) (S : Nat) (hS : sealOf t = S) :
    Calls Try.prog 68 #[.agg #[.int .i64 x.k, .int .i64 x.a, .int .i64 x.g, .int .i64 x.c, .int .i64 x.h, .slice x.lp x.ln x.lc, .slice x.wp x.wn x.wc, .int .u32 (x.b : Int), .slice x.fp x.fn x.fc, .int .u32 (x.s : Int)]] w fun e w' => e = .returned (.int .u32 (S : Int)) ∧ Below w.heap.size w w' := by
  have HS : Hid (sealOf t = S) := hS
  clear hS
  obtain ⟨W, hW⟩ : ∃ W, W = w.alloc (.cells #[.int .i64 x.k, .int .i64 x.a, .int .i64 x.g, .int .i64 x.c, .int .i64 x.h, .slice x.lp x.ln x.lc, .slice x.wp x.wn x.wc, .int .u32 (x.b : Int), .slice x.fp x.fn x.fc, .int .u32 (x.s : Int)] 58) := ⟨_, rfl⟩
  have bW : Below w.heap.size w W := by rw [hW]; exact bel_self _ _
  have hsz : W.heap.size = w.heap.size + 1 := by rw [hW]; simp
  have HZ : Hid (W.heap.size = w.heap.size + 1) := hsz
  have hV0 : Vt W w.heap.size x 58 := by rw [hW]; exact Vt.new _ _ _
  have HO := ho.below bW
  have hl9 := ho.l9
  have hw9 := ho.w9
  have hf9 := ho.f9
  have hb9 := ho.b9
  have HLN : Hid (t.L.length = x.ln) := ho.ln
  have HWN : Hid (t.W.length = x.wn) := ho.wn
  have HFN : Hid (t.F.length = x.fn) := ho.fn
  have HU : Hid (UL t.F) := ho.U
  have rL := HO.L
  have rW := HO.W
  have rF := HO.F
  have HP : Hid (sparts t = [x.k, x.a, x.g, x.c, x.h, (x.ln : Int)] ++ t.L ++ [(x.wn : Int)] ++ t.W ++ [(x.b : Int)] ++ fce t.F) := by
    show _ = _
    unfold sparts
    rw [ho.k, ho.a, ho.g, ho.c, ho.h, ho.ln, ho.wn, ho.b]
  clear ho HO
  have r0 : Own eI (W.alloc (.cells #[.int .i64 x.k, .int .i64 x.a, .int .i64 x.g, .int .i64 x.c, .int .i64 x.h] 2)) W.heap.size 2 (some ⟨w.heap.size + 1, 0, none⟩) 5 [x.k, x.a, x.g, x.c, x.h] := own_blockg hsz (by omega) rfl 5 rfl (by decide)
  have s0 := bel_self W (.cells #[.int .i64 x.k, .int .i64 x.a, .int .i64 x.g, .int .i64 x.c, .int .i64 x.h] 2)
  have s1 := bel_self (W.alloc (.cells #[.int .i64 x.k, .int .i64 x.a, .int .i64 x.g, .int .i64 x.c, .int .i64 x.h] 2)) (.cells #[.int .i64 x.ln] 2)
  have n1 : Rd eI ((W.alloc (.cells #[.int .i64 x.k, .int .i64 x.a, .int .i64 x.g, .int .i64 x.c, .int .i64 x.h] 2)).alloc (.cells #[.int .i64 x.ln] 2)) (some ⟨w.heap.size + 1 + 1, 0, none⟩) 1 [(x.ln : Int)] := rd_block (heap_at (by simp [hsz])) 1 rfl rfl
  clear hsz
  obtain ⟨A5, hA5⟩ : ∃ A5, A5 = [x.k, x.a, x.g, x.c, x.h] := ⟨_, rfl⟩
  have l5 : A5.length = 5 := by rw [hA5]; rfl
  rw [← hA5] at r0
  have HA5 : Hid (A5 = [x.k, x.a, x.g, x.c, x.h]) := hA5
  clear hA5
  obtain ⟨n2, hn2⟩ : ∃ n2, 6 + x.ln = n2 := ⟨_, rfl⟩
  obtain ⟨n3, hn3⟩ : ∃ n3, n2 + 1 = n3 := ⟨_, rfl⟩
  have h12 : n3 ≤ 107 := by omega
  have l6 : (A5 ++ [(x.ln : Int)]).length = 6 := by rw [List.length_append, l5]; rfl
  have l7 : (A5 ++ [(x.ln : Int)] ++ t.L).length = n2 := by rw [List.length_append, l6, HLN.out, hn2]
  have l8 : (A5 ++ [(x.ln : Int)] ++ t.L ++ [(x.wn : Int)]).length = n3 := by rw [List.length_append, l7, ← hn3]; rfl
  have H8 : Hid ((A5 ++ [(x.ln : Int)] ++ t.L ++ [(x.wn : Int)]).length = n3) := l8
  have HN2 : Hid (6 + x.ln = n2) := hn2
  have HN3 : Hid (n2 + 1 = n3) := hn3
  have h22 : n2 ≤ 106 := by omega
  clear hn2 hn3
  go_enter Try.func68, Try.ntmps68
  go_wp2_with (first
    | (at_builtin; rw [← hW]; refine wpList_app tL _ rfl _ _ rfl W.heap.size _ _ A5 5 l5 rfl (own_below r0 s1) _ _ [(x.ln : Int)] 1 rfl rfl n1 (by omega) (Nat.le_trans s0.size s1.size) 6 rfl ?_; intro p1 c1 w1 o1 b1 g1; have B1 : Below W.heap.size W w1 := (bel_call s0 (Nat.le_refl _) s1).trans b1; have V1 := hV0.below B1; have R1 := rL.below B1; obtain ⟨d0, d1, d2, d3, d4, d5, d6, d7, d8, d9⟩ := V1.at)
    | (at_builtin; refine wpList_app tL _ rfl _ _ rfl W.heap.size p1 c1 (A5 ++ [(x.ln : Int)]) 6 l6 rfl o1 _ _ t.L x.ln HLN.out rfl R1 (by omega) B1.size n2 HN2.out ?_; intro p2 c2 w2 o2 b2 g2; have B2 : Below W.heap.size W w2 := B1.trans b2; have V2 := hV0.below B2; clear d0 d1 d2 d3 d4 d5 d6 d7 d8 d9; obtain ⟨d0, d1, d2, d3, d4, d5, d6, d7, d8, d9⟩ := V2.at)
    | (at_builtin; refine wpList_app tL _ rfl _ _ rfl W.heap.size p2 c2 (A5 ++ [(x.ln : Int)] ++ t.L) n2 l7 rfl (own_below o2 (bel_self _ _)) _ _ [(x.wn : Int)] 1 rfl rfl (rd_block (heap_alloc_new _ _) 1 rfl rfl) (by omega) (Nat.le_trans B2.size (bel_self _ _).size) n3 HN3.out ?_; intro p3 c3 w3 o3 b3 g3; have B3 : Below W.heap.size W w3 := (B2.alloc B2.size _).trans b3; have V3 := hV0.below B3; clear d0 d1 d2 d3 d4 d5 d6 d7 d8 d9; obtain ⟨d0, d1, d2, d3, d4, d5, d6, d7, d8, d9⟩ := V3.at))
  clear d0 d1 d2 d3 d4 d5 d6 d7 d8 d9 V1 V2 V3 R1 o1 o2 b1 b2 b3 g1 g2 g3 B1 B2 l6 l7 l8 l5 r0 s0 s1 n1
  obtain ⟨A, hA⟩ : ∃ A, A = A5 ++ [(x.ln : Int)] ++ t.L ++ [(x.wn : Int)] := ⟨_, rfl⟩
  have HA : Hid (A = A5 ++ [(x.ln : Int)] ++ t.L ++ [(x.wn : Int)]) := hA
  have HAL : Hid (A.length = n3) := by show _ = _; rw [hA]; exact H8.out
  rw [← hA] at o3
  clear hA
  go_loopw [3, 5, 46] (fun q _ i wr => ∃ (k n : Nat) (p : Option Addr) (c : Nat), k ≤ x.wn ∧ i = .int .i64 k ∧ q = .slice p n c ∧ n3 + k = n ∧ Own eI wr W.heap.size 2 p c (A ++ t.W.take k) ∧ Below W.heap.size W wr) (fun _ _ i _ => x.wn - (intOf i).toNat)
  case atStart => exact ⟨0, n3, p3, c3, Nat.zero_le _, rfl, rfl, rfl, by simpa using o3, B3⟩
  case round =>
    obtain ⟨k, n, p, c, hk, rfl, rfl, hn, oq, hbw⟩ := hrel
    by_cases hlt : k < x.wn
    · have hkl : k < t.W.length := by rw [HWN.out]; exact hlt
      have hnx := take_nx t.W k hkl
      have ll : (A ++ t.W.take k).length = n := by rw [List.length_append, HAL.out, List.length_take, HWN.out, Nat.min_eq_left hk, hn]
      obtain ⟨bb, o, e9, hb, hc⟩ := (rW.below hbw).num k hkl
      have HWP : Hid (x.wp = some ⟨bb, o, none⟩) := e9
      rw [e9]
      generalize t.W[k] = z at *
      have HX : Hid (t.W.take (k + 1) = t.W.take k ++ [z]) := hnx
      have hn9 : n ≤ 210 := by omega
      obtain ⟨m, hm⟩ : ∃ m, n + 1 = m := ⟨_, rfl⟩
      clear hnx e9
      go_wp2_with (at_builtin; refine wpList_app tL _ rfl _ _ rfl W.heap.size p c _ n ll rfl (own_below oq (bel_self _ _)) _ _ [z] 1 rfl rfl (rd_block (heap_alloc_new _ _) 1 rfl rfl) (by omega) (Nat.le_trans hbw.size (bel_self _ _).size) m hm ?_; intro p5 c5 w5 o5 b5 g5)
      go_roundw
      case rel => exact ⟨k + 1, m, p5, c5, by omega, by go_num, rfl, by omega, by rw [HX.out, ← List.append_assoc]; exact o5, (hbw.alloc hbw.size _).trans b5⟩
      case measure => simp [intOf]; omega
    · have hkn : k = x.wn := by omega
      have hl : t.W.take k = t.W := by rw [hkn, ← HWN.out, List.take_length]
      rw [hl] at oq
      have ll : (A ++ t.W).length = n := by rw [List.length_append, HAL.out, HWN.out, ← hkn, hn]
      have hn9 : n ≤ 210 := by omega
      clear hl
      have V4 := hV0.below hbw
      obtain ⟨d0, d1, d2, d3, d4, d5, d6, d7, d8, d9⟩ := V4.at
      have hZ : (x.wn : Int) = (k : Int) := by rw [hkn]
      obtain ⟨m, hm⟩ : ∃ m, n + 1 = m := ⟨_, rfl⟩
      go_wp2_with (at_builtin; refine wpList_app tL _ rfl _ _ rfl W.heap.size p c _ n ll rfl (own_below oq (bel_self _ _)) _ _ [(x.b : Int)] 1 rfl rfl (rd_block (heap_alloc_new _ _) 1 rfl rfl) (by omega) (Nat.le_trans hbw.size (bel_self _ _).size) m hm ?_; intro p5 c5 w5 o5 b5 g5; have B5 : Below W.heap.size W w5 := (hbw.alloc hbw.size _).trans b5; have V5 := hV0.below B5; clear d0 d1 d2 d3 d4 d5 d6 d7 d8 d9; obtain ⟨d0, d1, d2, d3, d4, d5, d6, d7, d8, d9⟩ := V5.at)
      clear d0 d1 d2 d3 d4 d5 d6 d7 d8 d9 V4 V5 oq hbw
      have HAW : Hid ((A ++ t.W ++ [(x.b : Int)]).length = m) := by show _ = _; rw [List.length_append, ll, ← hm]; rfl
      have hm9 : m ≤ 211 := by omega
      clear hm ll
      go_loopw [3, 7, 66] (fun q _ i wr => ∃ (k n : Nat) (p : Option Addr) (c : Nat), k ≤ x.fn ∧ i = .int .i64 k ∧ q = .slice p n c ∧ m + 2 * k = n ∧ Own eI wr W.heap.size 2 p c (A ++ t.W ++ [(x.b : Int)] ++ fce (t.F.take k)) ∧ Below W.heap.size W wr) (fun _ _ i _ => x.fn - (intOf i).toNat)
      case atStart => exact ⟨0, m, p5, c5, Nat.zero_le _, rfl, rfl, rfl, by simpa [fce] using o5, B5⟩
      case round =>
        obtain ⟨j, n, p, c, hj, rfl, rfl, hn, oq, hbw⟩ := hrel
        by_cases hlt : j < x.fn
        · have hkl : j < t.F.length := by rw [HFN.out]; exact hlt
          have hnx := take_nx t.F j hkl
          have hu := HU.out _ (List.getElem_mem hkl)
          have ll : (A ++ t.W ++ [(x.b : Int)] ++ fce (t.F.take j)).length = n := by rw [List.length_append, HAW.out, fce_length, List.length_take, HFN.out, Nat.min_eq_left hj, hn]
          obtain ⟨bb, o, e9, hb, hc, hd⟩ := (rF.below hbw).wt j hkl
          have HWP : Hid (x.fp = some ⟨bb, o, none⟩) := e9
          rw [e9]
          generalize t.F[j] = z at *
          have HX : Hid (fce (t.F.take (j + 1)) = fce (t.F.take j) ++ [z.1, (z.2 : Int)]) := by show _ = _; rw [hnx, fce_append]; rfl
          have hn9 : n ≤ 430 := by omega
          obtain ⟨m2, hm2⟩ : ∃ m2, n + 2 = m2 := ⟨_, rfl⟩
          clear hnx e9
          go_wp2_with (at_builtin; refine wpList_app tL _ rfl _ _ rfl W.heap.size p c _ n ll rfl (own_below (own_below oq (bel_self _ _)) (bel_self _ _)) _ _ [z.1, (z.2 : Int)] 2 rfl rfl (rd_block (heap_at (by simp)) 2 rfl rfl) (by omega) (Nat.le_trans hbw.size (Nat.le_trans (bel_self _ _).size (bel_self _ _).size)) m2 hm2 ?_; intro p5 c5 w5 o5 b5 g5)
          go_roundw
          case rel => exact ⟨j + 1, m2, p5, c5, by omega, by go_num, rfl, by omega, by rw [HX.out, ← List.append_assoc]; exact o5, ((hbw.alloc hbw.size _).alloc (Nat.le_trans hbw.size (bel_self _ _).size) _).trans b5⟩
          case measure => simp [intOf]; omega
        · have hjn : j = x.fn := by omega
          have hl : t.F.take j = t.F := by rw [hjn, ← HFN.out, List.take_length]
          rw [hl] at oq
          have ll : (A ++ t.W ++ [(x.b : Int)] ++ fce t.F).length = n := by rw [List.length_append, HAW.out, fce_length, HFN.out, ← hjn, hn]
          have e1 : sumv seed (A ++ t.W ++ [(x.b : Int)] ++ fce t.F) = S := by
            rw [← HS.out]
            unfold sealOf
            rw [HP.out, HA.out, HA5.out]
            simp
          have hn9 : n ≤ 430 := by omega
          clear hl
          go_wp2_with (go_at_call 75; refine (ssum_any _ _ _ _ (own_rd oq) n ll (by omega) S e1).mono ?_; rintro e wz ⟨rfl, rfl⟩)
          go_ret
          exact ⟨rfl, bel_call bW (Nat.le_refl _) (hbw.mono (Nat.le_refl _))⟩
end Go.Proofs.Ytcncpefdjgnhdaa
