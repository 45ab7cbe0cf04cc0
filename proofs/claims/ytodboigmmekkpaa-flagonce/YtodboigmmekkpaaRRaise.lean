/-
  What the document's Raise hands back.
-/
import Derived.Test.YtodboigmmekkpaaClients
namespace Go.Proofs.Ytodboigmmekkpaa
open Go.ChangeShapes Go.WideShapes Go.ChangeAt Go.RowKit
attribute [local go_sem ↓] Go.wp_at_zero Go.wp_at_succ

set_option maxHeartbeats 4000000 in
theorem rraise_any (b m : Nat) (p : Option Addr) (c : Nat) (l : List Wt) (w : World) (hb32 : b < 4294967296) (hm32 : m < 4294967296) (h : Rd eW w p c l) (hU : UL l) (n : Nat) (hn : l.length = n) (hn9 : n ≤ 1000) :
    Calls Try.prog 9 #[.agg #[.int .u32 (b : Int), .slice p n c], .int .u32 (m : Int)] w fun e w' => ∃ (q : Option Addr) (d : Nat) (u : Option Addr) (v : Nat), e = .returned (.tuple #[.agg #[.int .u32 ((lf (b ||| m) l : Nat) : Int), .slice q (kp (b ||| m) l).length d], .slice u (tl (b ||| m) l).length v]) ∧ Own eW w' w.heap.size 43 q d (kp (b ||| m) l) ∧ Own eW w' w.heap.size 43 u v (tl (b ||| m) l) ∧ Two q u ∧ Below w.heap.size w w' := by
  have hor := u32_or_nat b m hb32 hm32
  have HN : Hid (l.length = n) := hn
  have HU : Hid (UL l) := hU
  have h32 := or_lt hb32 hm32
  clear hn hU
  generalize b ||| m = B at *
  obtain ⟨W, hW⟩ : ∃ W, W = ((w.alloc (.cells #[.int .u32 (b : Int), .slice p n c] 25)).alloc (.cells #[.int .u32 0, .slice none 0 0] 25)).alloc (.cells #[.int .u32 (B : Int), .slice none 0 0] 25) := ⟨_, rfl⟩
  have bW : Below w.heap.size w W := by rw [hW]; exact (((Below.refl _ _).alloc (Nat.le_refl _) _).alloc (by simp) _).alloc (by simp; omega) _
  have hp0 : Fv W w.heap.size b p n c := by rw [hW]; exact ((Fv.new _ _ _ _ _).below (bel_self _ _)).below (bel_self _ _)
  have hr0 : Fv W (w.heap.size + 1) 0 none 0 0 := by rw [hW]; exact Fv.below (w := (w.alloc (.cells #[.int .u32 (b : Int), .slice p n c] 25)).alloc (.cells #[.int .u32 0, .slice none 0 0] 25)) (heap_at (by simp)) (bel_self _ _)
  have hx0 : Fv W (w.heap.size + 1 + 1) B none 0 0 := by rw [hW]; exact heap_at (by simp)
  have hsz : W.heap.size = w.heap.size + 3 := by rw [hW]; simp
  go_enter Try.func9, Try.ntmps9
  go_wp2
  rw [← hW]
  clear hW
  obtain ⟨g, hg⟩ : ∃ g, g = w.heap.size + 1 + 1 := ⟨_, rfl⟩
  obtain ⟨gr, hgr⟩ : ∃ g, g = w.heap.size + 1 := ⟨_, rfl⟩
  obtain ⟨gb, hgb⟩ : ∃ g, g = w.heap.size := ⟨_, rfl⟩
  have hgw : w.heap.size ≤ g := by omega
  have hgrw : w.heap.size ≤ gr := by omega
  have hgbw : w.heap.size ≤ gb := by omega
  have hn1 : gb ≠ g := by omega
  have hn2 : gr ≠ g := by omega
  have hn3 : g ≠ gb := by omega
  rw [← hg] at hx0
  rw [← hgr] at hr0
  have hp1 : Fv W gb b p n c := by rw [hgb]; exact hp0
  clear hp0
  simp only [← hg]
  simp only [← hgr]
  simp only [← hgb]
  have hgbg : gb ≤ g := by omega
  have HGB : Hid (gb = w.heap.size) := hgb
  clear hg hgr hsz hgb
  have hWw := bW.size
  go_loopw [7, 8] (fun q i wr => ∃ (k K T : Nat) (x : Option Addr) (y : Nat) (u : Option Addr) (v : Nat), k ≤ n ∧ i = .int .i64 k ∧ q = .slice x T y ∧ (tl B (l.take k)).length = T ∧ (kp B (l.take k)).length = K ∧ Own eW wr gb 43 x y (tl B (l.take k)) ∧ Own eW wr gb 43 u v (kp B (l.take k)) ∧ Fv wr g (lf B (l.take k)) u K v ∧ Two u x ∧ Fv wr gb b p n c ∧ Fv wr gr 0 none 0 0 ∧ Below gb w wr) (fun _ i _ => n - (intOf i).toNat)
  case atStart => exact ⟨0, 0, 0, none, 0, none, 0, Nat.zero_le _, rfl, rfl, rfl, rfl, own_nil _ _ _, own_nil _ _ _, hx0, Two.nil _, hp1, hr0, by rw [HGB.out]; exact bW⟩
  case round =>
    obtain ⟨k, K, T, x, y, u, v, hk, rfl, rfl, hT, hK, oT, oK, hF, h2, hP, hR, hbw⟩ := hrel
    have HT : Hid ((tl B (l.take k)).length = T) := hT
    have HK : Hid ((kp B (l.take k)).length = K) := hK
    have hT9 : T ≤ 1000 := by have := tl_le B (l.take k); have := HN.out; simp at *; omega
    have hK9 : K ≤ 1000 := by have := kp_le B (l.take k); have := HN.out; simp at *; omega
    clear hT hK
    have j0 := hP.c0
    have j1 := hP.c1
    by_cases hlt : k < n
    · have hkl : k < l.length := by rw [HN.out]; exact hlt
      have hnx := take_next l k hkl
      have hT1 := tl_snoc (l[k]) B (l.take k)
      have hK1 := kp_snoc (l[k]) B (l.take k)
      have hL1 := lf_snoc (l[k]) B (l.take k)
      rw [← hnx] at hT1 hK1 hL1
      have hL32 := lf_lt h32 (l.take k)
      have hM32 := HU.out.get k hkl
      have hbw' : Below w.heap.size w wr := by rw [← HGB.out]; exact hbw
      obtain ⟨bw, ow, rfl, hbb, hc0, hc1⟩ := (h.below hbw').wt k hkl
      clear hnx
      obtain ⟨Z, hZ⟩ : ∃ Z, lf B (l.take k) &&& (l[k]).2 = Z := ⟨_, rfl⟩
      rw [hZ] at hT1 hK1
      have hsub := dn_add (l[k]).2 hL32
      rw [hZ] at hsub
      have hand := u32_and_nat (l[k]).2 (lf B (l.take k)) hM32 hL32
      rw [Nat.and_comm, hZ] at hand
      clear hZ
      have hxe : l[k] = ((l[k]).1, (l[k]).2) := rfl
      obtain ⟨X, hX⟩ : ∃ X, (l[k]).1 = X := ⟨_, rfl⟩
      obtain ⟨M, hM⟩ : ∃ M, (l[k]).2 = M := ⟨_, rfl⟩
      rw [hX, hM] at hxe
      rw [hxe] at hK1
      rw [hX] at hT1 hc0
      rw [hM] at hc1 hand hsub hL1 hM32
      clear hxe hX hM
      have HT1 : Hid (tl B (l.take (k + 1)) = tl B (l.take k) ++ if Z = 0 then [] else [(X, Z)]) := hT1
      have HK1 : Hid (kp B (l.take (k + 1)) = kp B (l.take k) ++ if Z = 0 then [(X, M)] else []) := hK1
      obtain ⟨D, hD⟩ : ∃ D, dn (lf B (l.take k)) M = D := ⟨_, rfl⟩
      rw [hD] at hL1 hsub
      have HL1 : Hid (lf B (l.take (k + 1)) = D) := hL1
      clear hT1 hK1 hL1 hD
      generalize tl B (l.take k) = LT at *
      generalize kp B (l.take k) = LK at *
      generalize lf B (l.take k) = LF at *
      have y0 := hF.c0
      have y1 := hF.c1
      by_cases hz : Z = 0
      · subst hz
        have HT2 : Hid (tl B (l.take (k + 1)) = LT) := by show _ = _; rw [HT1.out]; simp
        have HK2 : Hid (kp B (l.take (k + 1)) = LK ++ [(X, M)]) := by show _ = _; rw [HK1.out]; simp
        obtain rfl : D = LF := by omega
        clear HT1 HK1 hsub
        go_wp2
        go_quiet (fail)
        have bq : Below wr.heap.size wr (wr.drewN nq) := bel_draws (Below.refl _ _) nq
        have kF := hF.below bq
        have kP := hP.below bq
        have kR := hR.below bq
        have kT := own_below oT bq
        have kK := own_below oK bq
        have kb := bel_draws hbw nq
        have q0 := (bq.cell (p := ⟨bw, ow + k * 2, none⟩) hbb).trans hc0
        have q1 := (bq.cell (p := ⟨bw, ow + k * 2 + 1, none⟩) hbb).trans hc1
        clear bq hF hP hR oT oK hbw hbw' hc0 hc1 j0 j1 y0 y1 hbb
        generalize wr.drewN nq = wq at *
        have j0 := kP.c0
        have j1 := kP.c1
        have y0 := kF.c0
        have y1 := kF.c1
        have s1 : Below wq.heap.size wq (wq.alloc (.cells #[.int .i64 X, .int .u32 (M : Int)] 43)).drew := (bel_self _ _).drew
        have hF3 := kF.below s1
        have hoA := own_below kK s1
        have hrA : Rd eW (wq.alloc (.cells #[.int .i64 X, .int .u32 (M : Int)] 43)).drew (some ⟨wq.heap.size, 0, none⟩) 1 [(X, M)] := (rd_block (E := eW) (l := [(X, M)]) (heap_alloc_new wq (.cells #[.int .i64 X, .int .u32 (M : Int)] 43)) 1 rfl rfl).below (Below.refl _ _).drew
        have hzA : gb ≤ (wq.alloc (.cells #[.int .i64 X, .int .u32 (M : Int)] 43)).drew.heap.size := Nat.le_trans (Nat.le_of_lt kP.lt) s1.size
        have hA9 : K + 1 ≤ 2000 := by omega
        have e3 := (kF.below (bel_self wq (.cells #[.int .i64 X, .int .u32 (M : Int)] 43))).c1
        go_wp2
        go_region_law (refine step_app tW _ rfl _ _ rfl gb u v LK K HK.out (by simp [Act.eval]) hoA _ _ [(X, M)] 1 rfl (by simp [Act.eval]) hrA hA9 hzA (K + 1) rfl ?_; intro p5 c5 w5 o5 b5 g5; have hF5 := Lv.grew hF3 g5 (Far.type hoA hF3 (by decide)); have e1 := Lv.c hF5 1 rfl; have z5 := Lv.fz hF5 1)
        all_goals
          have oT5 := Own.grew (own_below kT s1) g5 h2
          have t5 := Two.grew (own_below kT s1) g5 h2
          have hP5 := Lv.grew (kP.below s1) g5 (Far.type hoA (kP.below s1) (by decide))
          have hR5 := Lv.grew (kR.below s1) g5 (Far.type hoA (kR.below s1) (by decide))
          have hF6 : Fv (w5.setCell ⟨g, 1, none⟩ (.slice p5 (K + 1) c5)) g D p5 (K + 1) c5 := by
            have := Lv.set hF5 1 (.slice p5 (K + 1) c5)
            simpa [Fv] using this
          have hb9 : Below gb w (w5.setCell ⟨g, 1, none⟩ (.slice p5 (K + 1) c5)) := Below.setCell ((kb.trans (s1.mono (Nat.le_of_lt kP.lt))).trans b5) (p := ⟨g, 1, none⟩) hgbg _
          go_wp2
          go_roundw
          case rel => exact ⟨k + 1, K + 1, T, x, y, p5, c5, by omega, by go_num, rfl, by rw [HT2.out]; exact HT.out, by rw [HK2.out, List.length_append, HK.out]; rfl, by rw [HT2.out]; exact own_setFar oT5 (Far.type oT5 hF5 (by decide)) 1 _, by rw [HK2.out]; exact own_setFar o5 (Far.type o5 hF5 (by decide)) 1 _, by rw [HL1.out]; exact hF6, t5, Lv.far hP5 (a := ⟨g, 1, none⟩) (fun e => hn1 e.symm) _, Lv.far hR5 (a := ⟨g, 1, none⟩) (fun e => hn2 e.symm) _, hb9⟩
          case measure => simp [intOf]; omega
      · have HT2 : Hid (tl B (l.take (k + 1)) = LT ++ [(X, Z)]) := by show _ = _; rw [HT1.out, if_neg hz]
        have HK2 : Hid (kp B (l.take (k + 1)) = LK) := by show _ = _; rw [HK1.out, if_neg hz, List.append_nil]
        clear HT1 HK1
        have hd1 : ((Z : Int) == 0) = false := by simpa using hz
        have hd2 : (Z == 0) = false := by simpa using hz
        go_wp2
        go_quiet (fail)
        have bq : Below wr.heap.size wr (wr.drewN nq) := bel_draws (Below.refl _ _) nq
        have kF := hF.below bq
        have kP := hP.below bq
        have kR := hR.below bq
        have kT := own_below oT bq
        have kK := own_below oK bq
        have kb := bel_draws hbw nq
        have q0 := (bq.cell (p := ⟨bw, ow + k * 2, none⟩) hbb).trans hc0
        have q1 := (bq.cell (p := ⟨bw, ow + k * 2 + 1, none⟩) hbb).trans hc1
        clear bq hF hP hR oT oK hbw hbw' hc0 hc1 j0 j1 y0 y1 hbb
        generalize wr.drewN nq = wq at *
        have j0 := kP.c0
        have j1 := kP.c1
        have y0 := kF.c0
        have y1 := kF.c1
        have s1 := bel_self wq (.cells #[.int .i64 X, .int .u32 (Z : Int)] 43)
        have hF3 := kF.below s1
        have oT3 := own_below kT s1
        have oK3 := own_below kK s1
        have rN : Rd eW (wq.alloc (.cells #[.int .i64 X, .int .u32 (Z : Int)] 43)) (some ⟨wq.heap.size, 0, none⟩) 1 [(X, Z)] := rd_block (heap_alloc_new _ _) 1 rfl rfl
        have hm : (LF : Int) - (Z : Int) = (D : Int) := by omega
        go_wp2_with (at_builtin; refine wpList_app tW _ rfl _ _ rfl gb x y LT T HT.out rfl oT3 _ _ [(X, Z)] 1 rfl rfl rN (by omega) (Nat.le_trans (Nat.le_of_lt kP.lt) s1.size) (T + 1) rfl ?_; intro p5 c5 w5 o5 b5 g5
                     have hF5 := Lv.grew hF3 g5 (Far.type oT3 hF3 (by decide))
                     have e0 := Lv.c hF5 0 rfl
                     have z5 := Lv.fz hF5 0)
        have oK5 := Own.grew oK3 g5 h2.symm
        have t5 := Two.grew oK3 g5 h2.symm
        have hP5 := Lv.grew (kP.below s1) g5 (Far.type oT3 (kP.below s1) (by decide))
        have hR5 := Lv.grew (kR.below s1) g5 (Far.type oT3 (kR.below s1) (by decide))
        have hF6 : Fv (w5.setCell ⟨g, 0, none⟩ (.int .u32 (D : Int))) g D u K v := by
          have := Lv.set hF5 0 (.int .u32 (D : Int))
          simpa [Fv] using this
        have hb9 : Below gb w (w5.setCell ⟨g, 0, none⟩ (.int .u32 (D : Int))) := Below.setCell ((kb.trans (s1.mono (Nat.le_of_lt kP.lt))).trans b5) (p := ⟨g, 0, none⟩) hgbg _
        go_roundw
        case rel => exact ⟨k + 1, K, T + 1, p5, c5, u, v, by omega, by go_num, rfl, by rw [HT2.out, List.length_append, HT.out]; rfl, by rw [HK2.out]; exact HK.out, by rw [HT2.out]; exact own_setFar o5 (Far.type o5 hF5 (by decide)) 0 _, by rw [HK2.out]; exact own_setFar oK5 (Far.type oK5 hF5 (by decide)) 0 _, by rw [HL1.out]; exact hF6, t5.symm, Lv.far hP5 (a := ⟨g, 0, none⟩) (fun e => hn1 e.symm) _, Lv.far hR5 (a := ⟨g, 0, none⟩) (fun e => hn2 e.symm) _, hb9⟩
        case measure => simp [intOf]; omega
    · have hkn : k = n := by omega
      subst hkn
      have hl : l.take k = l := by rw [← HN.out, List.take_length]
      rw [hl] at oT oK HT HK hF
      clear hl
      have x0 := hF.c0
      have x1 := hF.c1
      have r0 := hR.c0
      have r1 := hR.c1
      have z0 := hR.f0
      have z1 := hR.f1
      obtain ⟨LF, hLF⟩ : ∃ LF, lf B l = LF := ⟨_, rfl⟩
      have HLF : Hid (lf B l = LF) := hLF
      rw [hLF] at hF x0
      clear hLF
      go_wp2
      have hF6 : Fv ((wr.setCell ⟨gr, 0, none⟩ (.int .u32 (LF : Int))).setCell ⟨gr, 1, none⟩ (.slice u K v)) gr LF u K v := by
        have := (Lv.set hR 0 (.int .u32 (LF : Int))).set 1 (.slice u K v)
        simpa [Fv] using this
      have e9 := loadFlag hF6
      have fK := Far.type oK hR (by decide)
      have fT := Far.type oT hR (by decide)
      have oK9 := own_setFar (own_setFar oK fK 0 (.int .u32 (LF : Int))) fK 1 (.slice u K v)
      have oT9 := own_setFar (own_setFar oT fT 0 (.int .u32 (LF : Int))) fT 1 (.slice u K v)
      have hb9 : Below gb w ((wr.setCell ⟨gr, 0, none⟩ (.int .u32 (LF : Int))).setCell ⟨gr, 1, none⟩ (.slice u K v)) := Below.setCell (Below.setCell hbw (p := ⟨gr, 0, none⟩) (by show gb ≤ gr; rw [HGB.out]; exact hgrw) _) (p := ⟨gr, 1, none⟩) (by show gb ≤ gr; rw [HGB.out]; exact hgrw) _
      refine bodyPost_ret (v := .tuple #[.agg #[.int .u32 (LF : Int), .slice u K v], .slice x T y]) (by simp [results, Try.results9, asAddr, e9]) rfl ⟨u, v, x, y, by rw [HT.out, HK.out, HLF.out], ?_, ?_, h2, ?_⟩
      · rw [← HGB.out]; exact oK9
      · rw [← HGB.out]; exact oT9
      · rw [← HGB.out]; exact hb9
end Go.Proofs.Ytodboigmmekkpaa
