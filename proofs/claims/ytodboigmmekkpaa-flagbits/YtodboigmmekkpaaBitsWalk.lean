/-
  The law FlagBits, walked.
-/
import Derived.Test.YtodboigmmekkpaaUse
import Derived.Test.YtodboigmmekkpaaHand
import Derived.Deep.CutRange
import Derived.Test.YtodboigmmekkpaaTold
import Derived.Deep.RegionLaw
namespace Go.Proofs.Ytodboigmmekkpaa
open Go.ChangeShapes Go.WideShapes Go.ChangeAt Go.RowKit
attribute [local go_sem ↓] Go.wp_at_zero Go.wp_at_succ

set_option maxRecDepth 100000 in
set_option maxHeartbeats 8000000 in
theorem bits_walk (p : Option Addr) (c : Nat) (ms : List Nat) (w : World) (h : Rd eU w p c ms) (n : Nat) (hn : ms.length = n) (hU : ∀ y ∈ ms, y < 4294967296) (b m : Nat) (hb32 : b < 4294967296) (hm32 : m < 4294967296) :
    Calls Try.prog 6 #[.slice p n c, .int .u32 (b : Int), .int .u32 (m : Int)] w fun e w' => e = .returned (.bool true) ∧ Below w.heap.size w w' := by
  have HN : Hid (ms.length = n) := hn
  have HU : Hid (∀ y ∈ ms, y < 4294967296) := hU
  clear hn hU
  by_cases c1 : 4 < n
  · have d1 : decide ((4 : Int) < (n : Int)) = true := by simp; omega
    go_enter Try.func6, Try.ntmps6
    go_wp2_with (go_at_call 7; refine (begun_any _).mono ?_; rintro e w1 ⟨rfl, b1⟩)
    go_ret
    exact ⟨rfl, b1⟩
  have d1 : decide ((4 : Int) < (n : Int)) = false := by simp; omega
  go_enter Try.func6, Try.ntmps6
  go_wp2_with (go_at_call 7; refine (begun_any _).mono ?_; rintro e w1 ⟨rfl, b1⟩)
  obtain ⟨W, hW⟩ : ∃ W, W = w1.alloc (.cells #[.int .u32 (b : Int), .slice none 0 0] 25) := ⟨_, rfl⟩
  have v1 : Fv W w1.heap.size b none 0 0 := by rw [hW]; exact Fv.new _ _ _ _ _
  have B1 : Below w.heap.size w W := by rw [hW]; exact bel_call b1 (Nat.le_refl _) (bel_self _ _)
  rw [← hW]
  obtain ⟨gf, hgf⟩ : ∃ g, g = w1.heap.size := ⟨_, rfl⟩
  have hgw : w.heap.size ≤ gf := by rw [hgf]; exact b1.size
  rw [← hgf] at v1
  simp only [← hgf]
  clear hgf hW b1 w1
  go_loopw [8] (fun i wr => ∃ (k : Nat) (q : Option Addr) (d : Nat), k ≤ n ∧ i = .int .i64 k ∧ Fv wr gf b q k d ∧ Own eW wr gf 43 q d (bW ms k) ∧ Below w.heap.size w wr) (fun i _ => n - (intOf i).toNat)
  case atStart => exact ⟨0, none, 0, Nat.zero_le _, rfl, v1, own_nil _ _ _, B1⟩
  case round =>
    obtain ⟨k, q, d, hk, rfl, vb, oL, hbw⟩ := hrel
    clear v1 B1
    by_cases hlt : k < n
    · have hkl : k < ms.length := by rw [HN.out]; exact hlt
      obtain ⟨mb, mo, rfl, hmb, hc⟩ := (h.below hbw).bits k hkl
      have hS := bW_next ms k hkl
      have hw : IntKind.i64.wrap ((k : Int) + 1) = (k : Int) + 1 := by rw [IntKind.wrap_i64]; omega
      rw [← hw] at hS
      clear hw
      generalize ms[k] = M at *
      have HS : Hid (bW ms (k + 1) = bW ms k ++ [(IntKind.i64.wrap ((k : Int) + 1), M)]) := hS
      have HK : Hid ((bW ms k).length = k) := bW_len ms k
      clear hS
      generalize bW ms k = L at *
      obtain ⟨A, hA⟩ : ∃ A : Obj, A = .cells #[.int .i64 (IntKind.i64.wrap ((k : Int) + 1)), .int .u32 (M : Int)] 43 := ⟨_, rfl⟩
      have s1 : Below wr.heap.size wr (wr.alloc (.cells #[.int .i64 (IntKind.i64.wrap ((k : Int) + 1)), .int .u32 (M : Int)] 43)).drew := (bel_self _ _).drew
      have hF3 := vb.below s1
      have e3 := (vb.below (bel_self wr (.cells #[.int .i64 (IntKind.i64.wrap ((k : Int) + 1)), .int .u32 (M : Int)] 43))).c1
      have hoA := own_below oL s1
      have hrA : Rd eW (wr.alloc (.cells #[.int .i64 (IntKind.i64.wrap ((k : Int) + 1)), .int .u32 (M : Int)] 43)).drew (some ⟨wr.heap.size, 0, none⟩) 1 [(IntKind.i64.wrap ((k : Int) + 1), M)] := (rd_block (E := eW) (l := [(IntKind.i64.wrap ((k : Int) + 1), M)]) (heap_alloc_new wr (.cells #[.int .i64 (IntKind.i64.wrap ((k : Int) + 1)), .int .u32 (M : Int)] 43)) 1 rfl rfl).below (Below.refl _ _).drew
      have hzA : gf ≤ (wr.alloc (.cells #[.int .i64 (IntKind.i64.wrap ((k : Int) + 1)), .int .u32 (M : Int)] 43)).drew.heap.size := Nat.le_trans (Nat.le_of_lt vb.lt) s1.size
      have hA9 : k + 1 ≤ 2000 := by omega
      have y0 := vb.c0
      have y1 := vb.c1
      clear hA A
      go_wp2
      go_region_law (refine step_app tW _ rfl _ _ rfl gf q d L k HK.out (by simp [Act.eval]) hoA _ _ [(IntKind.i64.wrap ((k : Int) + 1), M)] 1 rfl (by simp [Act.eval]) hrA hA9 hzA (k + 1) rfl ?_; intro p5 c5 w5 o5 b5 g5; have hF5 := Lv.grew hF3 g5 (Far.type hoA hF3 (by decide)); have e1 := Lv.c hF5 1 rfl; have z5 := Lv.fz hF5 1)
      all_goals
        have hF6 : Fv (w5.setCell ⟨gf, 1, none⟩ (.slice p5 (k + 1) c5)) gf b p5 (k + 1) c5 := by
          have := Lv.set hF5 1 (.slice p5 (k + 1) c5)
          simpa [Fv] using this
        have hb9 : Below w.heap.size w (w5.setCell ⟨gf, 1, none⟩ (.slice p5 (k + 1) c5)) := Below.setCell ((bel_call hbw (Nat.le_refl _) s1).trans (b5.mono hgw)) (p := ⟨gf, 1, none⟩) hgw _
        go_wp2
        go_roundw
        case rel => exact ⟨k + 1, p5, c5, by omega, by go_num, hF6, by rw [HS.out]; exact own_setFar o5 (Far.type o5 hF5 (by decide)) 1 _, hb9⟩
        case measure => simp [intOf]; omega
    · obtain rfl : k = n := by omega
      obtain ⟨wo, hwo⟩ : ∃ wo : World, wo = wr := ⟨_, rfl⟩
      subst hwo
      have dk : decide ((k : Int) < (k : Int)) = false := by simp
      have HLn : Hid ((bW ms k).length = k) := bW_len ms k
      have hUL : UL (bW ms k) := bW_UL HU.out k
      have hB32 := or_lt hb32 hm32
      have hor := u32_or_nat b m hb32 hm32
      have xb : Fx wo b q d k (bW ms k) := ⟨own_rd oL, HLn.out, hUL, hb32, by omega⟩
      have HTd : Hid (∀ j (hj : j < (tl (b ||| m) (bW ms k)).length), ∃ (a : Nat) (ha : a < ms.length), ((tl (b ||| m) (bW ms k))[j]).1 = (a : Int) + 1 ∧ ((tl (b ||| m) (bW ms k))[j]).2 ≠ 0 ∧ dn ((tl (b ||| m) (bW ms k))[j]).2 ms[a] = 0) := by
        intro j hj
        exact bW_toldN HN.out j hj
      generalize bW ms k = L at *
      obtain ⟨Z, hZ⟩ : ∃ Z, b ||| m = Z := ⟨_, rfl⟩
      rw [hZ] at HTd hor hB32
      obtain ⟨B1, hB1⟩ : ∃ x, lf Z L = x := ⟨_, rfl⟩
      obtain ⟨K1, hK1⟩ : ∃ x, kp Z L = x := ⟨_, rfl⟩
      obtain ⟨T1, hT1⟩ : ∃ x, tl Z L = x := ⟨_, rfl⟩
      obtain ⟨k1, hk1⟩ : ∃ x, K1.length = x := ⟨_, rfl⟩
      obtain ⟨t1, ht1⟩ : ∃ x, T1.length = x := ⟨_, rfl⟩
      have hlen : (t1 : Int) + (k1 : Int) = (k : Int) := by
        have := lens Z L
        rw [hK1, hT1, hk1, ht1, HLn.out] at this
        omega
      have hUT : UL T1 := by rw [← hT1]; exact hUL.tl Z
      have HAn : Hid (∀ j (hj : j < T1.length), ak Z L (j + 1) = ak Z L j ||| (T1[j]).2) := by
        intro j hj
        subst hT1
        exact ak_next Z L j hj
      have HAf : Hid (∀ j (hj : j < T1.length), ak Z L j &&& (T1[j]).2 = 0) := by
        intro j hj
        subst hT1
        exact ak_free Z L j hj
      have HAe : Hid (ak Z L t1 = Z) := by show _ = _; rw [← ht1, ← hT1]; exact ak_all Z L
      have HAl : Hid (∀ j, ak Z L j < 4294967296) := fun j => ak_lt hB32 hUL j
      have HA0 : Hid (ak Z L 0 = B1) := (ak_zero Z L).trans hB1
      have HTe : Hid (∀ j (hj : j < T1.length), ∃ (a : Nat) (ha : a < ms.length), (T1[j]).1 = (a : Int) + 1 ∧ (T1[j]).2 ≠ 0 ∧ dn (T1[j]).2 ms[a] = 0) := by
        intro j hj
        subst hT1
        exact HTd.out j hj
      have HB1 : Hid (lf (b ||| m) L = B1) := by rw [hZ]; exact hB1
      have HK1 : Hid (kp (b ||| m) L = K1) := by rw [hZ]; exact hK1
      have HT1 : Hid (tl (b ||| m) L = T1) := by rw [hZ]; exact hT1
      have HNk : Hid (K1.length = k1) := hk1
      have HNt : Hid (T1.length = t1) := ht1
      clear hB1 hK1 hT1 hk1 ht1 HTd oL hlt hk hZ
      have y0 := vb.c0
      have y1 := vb.c1
      go_wp2_with (go_at_call 8; (with_reducible (refine (raise_c xb (b : Int) rfl m hm32 (m : Int) rfl B1 HB1.out (B1 : Int) rfl K1 T1 HK1.out HT1.out k1 t1 HNk.out HNt.out).mono ?_)); rintro e w2 ⟨q2, d2, u2, v2, rfl, x2, r2, b2⟩
                   have e0 := (Fv.new w2 B1 q2 k1 d2).c0; have e1 := (Fv.new w2 B1 q2 k1 d2).c1)
      have BW2 := bel_call (bel_call hbw (Nat.le_refl _) b2) (Nat.le_refl _) (bel_self w2 (.cells #[.int .u32 (B1 : Int), .slice q2 k1 d2] 25))
      have V2 := Fv.new w2 B1 q2 k1 d2
      have R2 := r2.below (bel_self w2 (.cells #[.int .u32 (B1 : Int), .slice q2 k1 d2] 25))
      obtain ⟨W2, hW2⟩ : ∃ x, x = w2.alloc (.cells #[.int .u32 (B1 : Int), .slice q2 k1 d2] 25) := ⟨_, rfl⟩
      rw [← hW2] at BW2 V2 R2 ⊢
      obtain ⟨gx, hgx⟩ : ∃ g, g = w2.heap.size := ⟨_, rfl⟩
      rw [← hgx] at V2
      simp only [← hgx]
      clear hW2 hgx e0 e1 x2 r2 b2 y0 y1 vb xb HB1 HK1 HT1 HNk
      go_loopw [11, 12] (fun a i wr => ∃ j : Nat, j ≤ t1 ∧ i = .int .i64 j ∧ a = .int .u32 ((ak Z L j : Nat) : Int) ∧ Below W2.heap.size W2 wr) (fun _ i _ => t1 - (intOf i).toNat)
      case atStart => exact ⟨0, Nat.zero_le _, rfl, by rw [HA0.out], Below.refl _ _⟩
      case round =>
        obtain ⟨j, hj, rfl, rfl, hbj⟩ := hrel
        have BWj := bel_call BW2 (Nat.le_refl _) hbj
        by_cases hltj : j < t1
        · have hjT : j < T1.length := by rw [HNt.out]; exact hltj
          obtain ⟨a, ha, hT0, hg0, hdn⟩ := HTe.out j hjT
          have hnx := HAn.out j hjT
          have hfr := HAf.out j hjT
          have hlA := HAl.out j
          have hlG := hUT.get j hjT
          have hlM := HU.out _ (List.getElem_mem ha)
          obtain ⟨tb, tz, rfl, htb, ta0, ta1⟩ := (R2.below hbj).wt j hjT
          obtain ⟨mb, mo, rfl, hmb, hma⟩ := (h.below BWj).bits a ha
          rw [hT0] at ta0
          have han : a < k := by rw [← HN.out]; exact ha
          clear hT0
          generalize (T1[j]).2 = G at *
          generalize ms[a] = M at *
          obtain ⟨A, hA⟩ : ∃ A, ak Z L j = A := ⟨_, rfl⟩
          rw [hA] at hnx hfr hlA ⊢
          have HX : Hid (ak Z L (j + 1) = A ||| G) := hnx
          have f1 : decide ((a : Int) + 1 < 1) = false := by simp; omega
          have f2 : decide ((k : Int) < (a : Int) + 1) = false := by simp; omega
          have f3 : ((G : Int) == 0) = false := by simpa using hg0
          have f3' : (G == 0) = false := by simpa using hg0
          have f4 : bits .andNot .u32 (G : Int) (M : Int) = 0 := by rw [u32_andNot_nat G M hlG hlM, andNot_dn hlG hlM, hdn]; rfl
          have f5 : bits .and .u32 (A : Int) (G : Int) = 0 := by rw [u32_and_nat A G hlA hlG, hfr]; rfl
          have f6 := u32_or_nat A G hlA hlG
          have f7 : IntKind.i64.wrap ((a : Int) + 1 - 1) = (a : Int) := by rw [IntKind.wrap_i64]; omega
          clear hnx hfr hg0 hdn hA
          go_wp2
          go_quiet (fail)
          go_wp2
          go_roundw
          case rel => exact ⟨j + 1, by omega, by go_num, by rw [HX.out], bel_draws hbj nq⟩
          case measure => simp [intOf]; omega
        · obtain rfl : j = t1 := by omega
          have hv := V2.below hbj
          have z0 := hv.c0
          have z1 := hv.c1
          rw [HAe.out]
          go_wp2
          go_ret
          exact ⟨rfl, BWj⟩
theorem bits_walki (p : Option Addr) (c : Nat) (ms : List Nat) (w : World) (h : Rd eU w p c ms) (n : Nat) (hn : ms.length = n) (hU : ∀ y ∈ ms, y < 4294967296) (b m : Int) (h0 : 0 ≤ b) (h1 : b < 4294967296) (h2 : 0 ≤ m) (h3 : m < 4294967296) :
    Calls Try.prog 6 #[.slice p n c, .int .u32 b, .int .u32 m] w fun e w' => e = .returned (.bool true) ∧ Below w.heap.size w w' := by
  obtain ⟨b, rfl⟩ := Int.eq_ofNat_of_zero_le h0
  obtain ⟨m, rfl⟩ := Int.eq_ofNat_of_zero_le h2
  exact bits_walk p c ms w h n hn hU b m (by omega) (by omega)
end Go.Proofs.Ytodboigmmekkpaa
