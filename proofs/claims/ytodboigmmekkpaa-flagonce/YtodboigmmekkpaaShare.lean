/-
  What share hands back: what is left of the flags, who waits on, who is told which.
-/
import Derived.Test.YtodboigmmekkpaaParting
import Derived.Deep.RegionLaw
namespace Go.Proofs.Ytodboigmmekkpaa
open Go.ChangeShapes Go.WideShapes Go.ChangeAt Go.RowKit
attribute [local go_sem ↓] Go.wp_at_zero Go.wp_at_succ

/-- A flag's variable. -/
def Fv (w : World) (g b : Nat) (p : Option Addr) (n c : Nat) : Prop := Lv w g #[.int .u32 (b : Int), .slice p n c] 25
theorem Fv.c0 {w : World} {g b : Nat} {p : Option Addr} {n c : Nat} (h : Fv w g b p n c) : w.cell? ⟨g, 0, none⟩ = some (.int .u32 (b : Int)) := Lv.c h 0 rfl
theorem Fv.c1 {w : World} {g b : Nat} {p : Option Addr} {n c : Nat} (h : Fv w g b p n c) : w.cell? ⟨g, 1, none⟩ = some (.slice p n c) := Lv.c h 1 rfl
theorem Fv.f0 {w : World} {g b : Nat} {p : Option Addr} {n c : Nat} (h : Fv w g b p n c) : w.frozen? ⟨g, 0, none⟩ = false := Lv.fz h 0
theorem Fv.f1 {w : World} {g b : Nat} {p : Option Addr} {n c : Nat} (h : Fv w g b p n c) : w.frozen? ⟨g, 1, none⟩ = false := Lv.fz h 1
theorem Fv.new (w : World) (b : Nat) (p : Option Addr) (n c : Nat) : Fv (w.alloc (.cells #[.int .u32 (b : Int), .slice p n c] 25)) w.heap.size b p n c := Lv.new _ _ _
theorem Fv.below {w w' : World} {g b : Nat} {p : Option Addr} {n c : Nat} (h : Fv w g b p n c) (hb : Below w.heap.size w w') : Fv w' g b p n c := Lv.below h hb
theorem Fv.lt {w : World} {g b : Nat} {p : Option Addr} {n c : Nat} (h : Fv w g b p n c) : g < w.heap.size := Lv.lt h
theorem Fv.drw {w : World} {g b : Nat} {p : Option Addr} {n c : Nat} (h : Fv w g b p n c) : Fv w.drew g b p n c := h
theorem loadFlag {w : World} {g : Nat} {x y : Value} (h : Lv w g #[x, y] 25) : (loadVar 25 ⟨g, 0, none⟩).run Try.prog w = .ok (.agg #[x, y]) w := by
  have c0 := h.c 0 rfl
  have c1 := h.c 1 rfl
  simp [go_sem, c0, c1]
theorem len_take {l : List Wt} {k : Nat} (h : k ≤ l.length) : (l.take k).length = k := by simp; omega
set_option maxHeartbeats 4000000 in
theorem share_any (b : Nat) (p : Option Addr) (c : Nat) (l : List Wt) (w : World) (hb32 : b < 4294967296) (h : Rd eW w p c l) (hU : UL l) (n : Nat) (hn : l.length = n) (hn9 : n ≤ 1000) :
    Calls Try.prog 17 #[.int .u32 (b : Int), .slice p n c] w fun e w' => ∃ (q : Option Addr) (d : Nat) (u : Option Addr) (v : Nat), e = .returned (.tuple #[.agg #[.int .u32 ((lf b l : Nat) : Int), .slice q (kp b l).length d], .slice u (tl b l).length v]) ∧ Own eW w' w.heap.size 43 q d (kp b l) ∧ Own eW w' w.heap.size 43 u v (tl b l) ∧ Two q u ∧ Below w.heap.size w w' := by
  have HN : Hid (l.length = n) := hn
  have HU : Hid (UL l) := hU
  clear hn hU
  obtain ⟨W, hW⟩ : ∃ W, W = w.alloc (.cells #[.int .u32 0, .slice none 0 0] 25) := ⟨_, rfl⟩
  have bW : Below w.heap.size w W := by rw [hW]; exact bel_self _ _
  have hF0 : Fv W w.heap.size 0 none 0 0 := by rw [hW]; exact Fv.new _ _ _ _ _
  have hwW : w.heap.size < W.heap.size := hF0.lt
  go_enter Try.func17, Try.ntmps17
  go_wp2_with (go_at_call 20; rw [← hW]; refine (parts_any b _ _ l _ hb32 (h.below bW) HU.out n HN.out hn9).mono ?_; rintro e w1 ⟨qg, dg, rfl, oG, b1⟩; have hF1 := hF0.below b1; have x0 := hF1.c0; have v0 := hF1.f0)
  have hF2 : Fv (w1.setCell ⟨w.heap.size, 0, none⟩ (.int .u32 ((lf b l : Nat) : Int))) w.heap.size (lf b l) none 0 0 := by
    have := Lv.set hF1 0 (.int .u32 ((lf b l : Nat) : Int))
    simpa [Fv] using this
  have oG2 := own_setFar oG (Far.type oG hF1 (by decide)) 0 (.int .u32 ((lf b l : Nat) : Int))
  have bB : Below w.heap.size w (w1.setCell ⟨w.heap.size, 0, none⟩ (.int .u32 ((lf b l : Nat) : Int))) := Below.setCell (bel_call bW (Nat.le_refl _) b1) (p := ⟨w.heap.size, 0, none⟩) (Nat.le_refl _) _
  have oG3 : Own eU (w1.setCell ⟨w.heap.size, 0, none⟩ (.int .u32 ((lf b l : Nat) : Int))) W.heap.size 22 qg dg (gs b l) := oG2
  clear oG2 oG x0 v0 hF1 hF0 b1
  generalize w1.setCell ⟨w.heap.size, 0, none⟩ (.int .u32 ((lf b l : Nat) : Int)) = W1 at *
  obtain ⟨g, hg⟩ : ∃ g, g = w.heap.size := ⟨_, rfl⟩
  have hgw : w.heap.size ≤ g := by omega
  rw [← hg] at hF2
  simp only [← hg]
  clear hg hwW
  obtain ⟨B, hB⟩ : ∃ B, lf b l = B := ⟨_, rfl⟩
  have HB : Hid (lf b l = B) := hB
  rw [hB] at hF2
  simp only [hB]
  clear hB
  go_loopw [5, 20] (fun q i wr => ∃ (k K T : Nat) (x : Option Addr) (y : Nat) (u : Option Addr) (v : Nat), k ≤ n ∧ i = .int .i64 k ∧ q = .slice x T y ∧ (tl b (l.take k)).length = T ∧ (kp b (l.take k)).length = K ∧ Own eW wr w.heap.size 43 x y (tl b (l.take k)) ∧ Own eW wr w.heap.size 43 u v (kp b (l.take k)) ∧ Fv wr g B u K v ∧ Two u x ∧ Own eU wr W.heap.size 22 qg dg (gs b l) ∧ Below w.heap.size w wr) (fun _ i _ => n - (intOf i).toNat)
  case atStart => exact ⟨0, 0, 0, none, 0, none, 0, Nat.zero_le _, rfl, rfl, rfl, rfl, own_nil _ _ _, own_nil _ _ _, hF2, Two.nil _, oG3, bB⟩
  case round =>
    obtain ⟨k, K, T, x, y, u, v, hk, rfl, rfl, hT, hK, oT, oK, hF, h2, oG, hbw⟩ := hrel
    have HT : Hid ((tl b (l.take k)).length = T) := hT
    have HK : Hid ((kp b (l.take k)).length = K) := hK
    have hT9 : T ≤ 1000 := by have := tl_le b (l.take k); have := HN.out; simp at *; omega
    have hK9 : K ≤ 1000 := by have := kp_le b (l.take k); have := HN.out; simp at *; omega
    clear hT hK
    by_cases hlt : k < n
    · have hkl : k < l.length := by rw [HN.out]; exact hlt
      have hgl : k < (gs b l).length := by rw [gs_length]; exact hkl
      have hnx := take_next l k hkl
      have hT1 := tl_snoc (l[k]) b (l.take k)
      have hK1 := kp_snoc (l[k]) b (l.take k)
      rw [← hnx] at hT1 hK1
      have hgg := gs_get b l k hkl hgl
      obtain ⟨bw, ow, rfl, hbb, hc0, hc1⟩ := (h.below hbw).wt k hkl
      obtain ⟨bg, og, rfl, hbg, hcg⟩ := (own_rd oG).bits k hgl
      rw [hgg] at hcg
      clear hnx hgg
      obtain ⟨Z, hZ⟩ : ∃ Z, lf b (l.take k) &&& (l[k]).2 = Z := ⟨_, rfl⟩
      rw [hZ] at hT1 hK1 hcg
      clear hZ
      have hxe : l[k] = ((l[k]).1, (l[k]).2) := rfl
      obtain ⟨X, hX⟩ : ∃ X, (l[k]).1 = X := ⟨_, rfl⟩
      obtain ⟨M, hM⟩ : ∃ M, (l[k]).2 = M := ⟨_, rfl⟩
      rw [hX, hM] at hxe
      rw [hxe] at hK1
      rw [hX] at hT1 hc0
      rw [hM] at hc1
      clear hxe hX hM
      have HT1 : Hid (tl b (l.take (k + 1)) = tl b (l.take k) ++ if Z = 0 then [] else [(X, Z)]) := hT1
      have HK1 : Hid (kp b (l.take (k + 1)) = kp b (l.take k) ++ if Z = 0 then [(X, M)] else []) := hK1
      clear hT1 hK1
      generalize tl b (l.take k) = LT at *
      generalize kp b (l.take k) = LK at *
      have ltg : g < wr.heap.size := hF.lt
      have s1 := bel_self wr (.cells #[.int .i64 X, .int .u32 (M : Int)] 43)
      have hF3 := hF.below s1
      have y0 := hF3.c0
      have y1 := hF3.c1
      have z1 := hF3.f1
      have oK3 := own_below oK s1
      have oT3 := own_below oT s1
      have oG3 := own_below oG s1
      have b3 := hbw.alloc hbw.size (.cells #[.int .i64 X, .int .u32 (M : Int)] 43)
      have rN : Rd eW ((wr.alloc (.cells #[.int .i64 X, .int .u32 (M : Int)] 43)).alloc (.cells #[.int .i64 X, .int .u32 (M : Int)] 43)) (some ⟨wr.heap.size + 1, 0, none⟩) 1 [(X, M)] := rd_block (heap_at (by simp)) 1 rfl rfl
      by_cases hz : Z = 0
      · subst hz
        have HT2 : Hid (tl b (l.take (k + 1)) = LT) := by show _ = _; rw [HT1.out]; simp
        have HK2 : Hid (kp b (l.take (k + 1)) = LK ++ [(X, M)]) := by show _ = _; rw [HK1.out]; simp
        clear HT1 HK1
        go_wp2_with (at_builtin; refine wpList_app tW _ rfl _ _ rfl w.heap.size u v LK K HK.out rfl (own_below oK3 (bel_self _ _)) _ _ [(X, M)] 1 rfl rfl rN (by omega) (Nat.le_trans b3.size (bel_self _ _).size) (K + 1) rfl ?_; intro p5 c5 w5 o5 b5 g5
                     have s4 := bel_self (wr.alloc (.cells #[.int .i64 X, .int .u32 (M : Int)] 43)) (.cells #[.int .i64 X, .int .u32 (M : Int)] 43)
                     have hF5 := Lv.grew (hF3.below s4) g5 (Far.type (own_below oK3 s4) (hF3.below s4) (by decide))
                     have e1 := Lv.c hF5 1 rfl
                     have z5 := Lv.fz hF5 1)
        have s4 := bel_self (wr.alloc (.cells #[.int .i64 X, .int .u32 (M : Int)] 43)) (.cells #[.int .i64 X, .int .u32 (M : Int)] 43)
        have oT5 := Own.grew (own_below oT3 s4) g5 h2
        have oG5 := Own.grew (own_below oG3 s4) g5 (Two.type (own_below oK3 s4) (own_below oG3 s4) (by decide))
        have t5 := Two.grew (own_below oT3 s4) g5 h2
        have hF6 : Fv (w5.setCell ⟨g, 1, none⟩ (.slice p5 (K + 1) c5)) g B p5 (K + 1) c5 := by
          have := Lv.set hF5 1 (.slice p5 (K + 1) c5)
          simpa [Fv] using this
        go_roundw
        case rel => exact ⟨k + 1, K + 1, T, x, y, p5, c5, by omega, by go_num, rfl, by rw [HT2.out]; exact HT.out, by rw [HK2.out, List.length_append, HK.out]; rfl, by rw [HT2.out]; exact own_setFar oT5 (Far.type oT5 hF5 (by decide)) 1 _, by rw [HK2.out]; exact own_setFar o5 (Far.type o5 hF5 (by decide)) 1 _, hF6, t5, own_setFar oG5 (Far.type oG5 hF5 (by decide)) 1 _, Below.setCell ((b3.alloc b3.size _).trans b5) (p := ⟨g, 1, none⟩) hgw _⟩
        case measure => simp [intOf]; omega
      · have HT2 : Hid (tl b (l.take (k + 1)) = LT ++ [(X, Z)]) := by show _ = _; rw [HT1.out, if_neg hz]
        have HK2 : Hid (kp b (l.take (k + 1)) = LK) := by show _ = _; rw [HK1.out, if_neg hz, List.append_nil]
        clear HT1 HK1
        have hd1 : ((Z : Int) == 0) = false := by simpa using hz
        have hd2 : (Z == 0) = false := by simpa using hz
        have hA : Below (wr.alloc (.cells #[.int .i64 X, .int .u32 (M : Int)] 43)).heap.size (wr.alloc (.cells #[.int .i64 X, .int .u32 (M : Int)] 43)) ((wr.alloc (.cells #[.int .i64 X, .int .u32 (M : Int)] 43)).alloc (.cells #[.int .i64 X, .int .u32 (Z : Int)] 43)).drew := (bel_self _ _).drew
        have hoA := own_below oT3 hA
        have hrA : Rd eW ((wr.alloc (.cells #[.int .i64 X, .int .u32 (M : Int)] 43)).alloc (.cells #[.int .i64 X, .int .u32 (Z : Int)] 43)).drew (some ⟨wr.heap.size + 1, 0, none⟩) 1 [(X, Z)] := (rd_block (E := eW) (l := [(X, Z)]) (heap_at (w := wr.alloc (.cells #[.int .i64 X, .int .u32 (M : Int)] 43)) (o := .cells #[.int .i64 X, .int .u32 (Z : Int)] 43) (k := wr.heap.size + 1) (by simp)) 1 rfl rfl).below (Below.refl _ _).drew
        have hzA : w.heap.size ≤ ((wr.alloc (.cells #[.int .i64 X, .int .u32 (M : Int)] 43)).alloc (.cells #[.int .i64 X, .int .u32 (Z : Int)] 43)).drew.heap.size := Nat.le_trans b3.size hA.size
        have hA9 : T + 1 ≤ 2000 := by omega
        go_wp2
        go_region_law (refine step_app tW _ rfl _ _ rfl w.heap.size x y LT T HT.out (by simp [Act.eval]) hoA _ _ [(X, Z)] 1 rfl (by simp [Act.eval]) hrA hA9 hzA (T + 1) rfl ?_; intro p5 c5 w5 o5 b5 g5)
        all_goals
          have oK5 := Own.grew (own_below oK3 hA) g5 h2.symm
          have oG5 := Own.grew (own_below oG3 hA) g5 (Two.type (own_below oT3 hA) (own_below oG3 hA) (by decide))
          have t5 := Two.grew (own_below oK3 hA) g5 h2.symm
          have hF5 := Lv.grew (hF3.below hA) g5 (Far.type (own_below oT3 hA) (hF3.below hA) (by decide))
          go_wp2
          go_roundw
          case rel => exact ⟨k + 1, K, T + 1, p5, c5, u, v, by omega, by go_num, rfl, by rw [HT2.out, List.length_append, HT.out]; rfl, by rw [HK2.out]; exact HK.out, by rw [HT2.out]; exact o5, by rw [HK2.out]; exact oK5, hF5, t5.symm, oG5, (bel_call b3 (Nat.le_refl _) hA).trans b5⟩
          case measure => simp [intOf]; omega
    · have hkn : k = n := by omega
      subst hkn
      have hl : l.take k = l := by rw [← HN.out, List.take_length]
      rw [hl] at oT oK HT HK
      clear hl
      have x0 := hF.c0
      have x1 := hF.c1
      have z0 := hF.f0
      have z1 := hF.f1
      go_wp2
      have hF6 : Fv ((wr.setCell ⟨g, 0, none⟩ (.int .u32 (B : Int))).setCell ⟨g, 1, none⟩ (.slice u K v)) g B u K v := by
        have := (Lv.set hF 0 (.int .u32 (B : Int))).set 1 (.slice u K v)
        simpa [Fv] using this
      have e9 := loadFlag hF6
      have hb9 : Below w.heap.size w ((wr.setCell ⟨g, 0, none⟩ (.int .u32 (B : Int))).setCell ⟨g, 1, none⟩ (.slice u K v)) := Below.setCell (Below.setCell hbw (p := ⟨g, 0, none⟩) hgw _) (p := ⟨g, 1, none⟩) hgw _
      have fK := Far.type oK hF (by decide)
      have fT := Far.type oT hF (by decide)
      refine bodyPost_ret (v := .tuple #[.agg #[.int .u32 (B : Int), .slice u K v], .slice x T y]) (by simp [results, Try.results17, asAddr, e9]) rfl ⟨u, v, x, y, by rw [HT.out, HK.out, HB.out], own_setFar (own_setFar oK fK 0 _) fK 1 _, own_setFar (own_setFar oT fT 0 _) fT 1 _, h2, hb9⟩
end Go.Proofs.Ytodboigmmekkpaa
