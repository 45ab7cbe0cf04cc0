/-
  What places, Semas of package obj and Semas of the document hand back; with of the document; waiting of the document.
-/
import Derived.Test.YtcncpefdjgnhdaaSmall2
namespace Go.Proofs.Ytcncpefdjgnhdaa
open Go.ChangeShapes Go.WideShapes Go.ChangeAt Go.RowKit
attribute [local go_sem ↓] Go.wp_at_zero Go.wp_at_succ

set_option maxHeartbeats 2000000 in
theorem places_any (x : Tw) (T : Tb) (w : World) (ht : Tr w x T) (k : Int) (m : Nat) (hm : (plc k T.T 12).length = m) :
    Calls Try.prog 50 #[.agg #[.slice x.gp 12 x.gc, .slice x.ip 12 x.ic, .slice x.tp 12 x.tc], .int .i64 k] w fun e w' => ∃ (p : Option Addr) (c : Nat), e = .returned (.slice p m c) ∧ Own eI w' w.heap.size 3 p c (plc k T.T 12) ∧ Below w.heap.size w w' := by
  have HMM : Hid ((plc k T.T 12).length = m) := hm
  clear hm
  obtain ⟨W, hW⟩ : ∃ W, W = w.alloc (.cells #[.slice x.gp 12 x.gc, .slice x.ip 12 x.ic, .slice x.tp 12 x.tc] 30) := ⟨_, rfl⟩
  have bW : Below w.heap.size w W := by rw [hW]; exact bel_self _ _
  have hV : Vw W w.heap.size x 30 := by rw [hW]; exact Vw.new _ _ _
  obtain ⟨c0, c1, c2⟩ := hV.at
  have hT := ht.below bW
  go_enter Try.func50, Try.ntmps50
  go_wp2
  rw [← hW]
  clear hW
  go_loopw [5, 6, 11] (fun q _ i wr => ∃ (n m : Nat) (p : Option Addr) (c : Nat), n ≤ 12 ∧ i = .int .i64 n ∧ q = .slice p m c ∧ (plc k T.T n).length = m ∧ Own eI wr W.heap.size 3 p c (plc k T.T n) ∧ Below W.heap.size W wr) (fun _ _ i _ => 12 - (intOf i).toNat)
  case atStart => exact ⟨0, 0, none, 0, Nat.zero_le _, rfl, rfl, rfl, own_nil _ _ _, Below.refl _ _⟩
  case round =>
    obtain ⟨n, m, p, c, hn, rfl, rfl, hm, oq, hbw⟩ := hrel
    have HM : Hid ((plc k T.T n).length = m) := hm
    have hm9 : m ≤ 12 := by have := plc_le k T.T n; omega
    clear hm
    have V1 := hV.below hbw
    clear c0 c1 c2
    obtain ⟨c0, c1, c2⟩ := V1.at
    by_cases hlt : n < 12
    · obtain ⟨b, o, X, e9, hb, hc, ho⟩ := (hT.below hbw).thing n hlt
      rw [e9]
      obtain ⟨d0, d1, d2, d3, d4, d5, d6, d7, d8, d9⟩ := hc
      have HP : Hid (plc k T.T (n + 1) = plc k T.T n ++ if X.k = k then [(n : Int)] else []) := by
        show _ = _
        rw [ho.k]; rfl
      clear ho e9
      by_cases hx : X.k = k
      · have hx1 : (X.k == k) = true := by simpa using hx
        have hx2 : decide (X.k = k) = true := by simpa using hx
        have HP2 : Hid (plc k T.T (n + 1) = plc k T.T n ++ [(n : Int)]) := by show _ = _; rw [HP.out, if_pos hx]
        clear HP hx
        go_wp2_with (at_builtin; refine wpList_app tI _ rfl _ _ rfl W.heap.size p c _ m HM.out rfl (own_below (own_below oq (bel_self _ _)) (bel_self _ _)) _ _ [(n : Int)] 1 rfl rfl (rd_block (heap_at (by simp)) 1 rfl rfl) (by omega) (Nat.le_trans hbw.size (Nat.le_trans (bel_self _ _).size (bel_self _ _).size)) (m + 1) rfl ?_; intro p5 c5 w5 o5 b5 g5)
        go_roundw
        case rel => exact ⟨n + 1, m + 1, p5, c5, by omega, by go_num, rfl, by rw [HP2.out, List.length_append, HM.out]; rfl, by rw [HP2.out]; exact o5, ((hbw.alloc hbw.size _).alloc (Nat.le_trans hbw.size (bel_self _ _).size) _).trans b5⟩
        case measure => simp [intOf]; omega
      · have hx1 : (X.k == k) = false := by simpa using hx
        have hx2 : decide (X.k = k) = false := by simpa using hx
        have HP2 : Hid (plc k T.T (n + 1) = plc k T.T n) := by show _ = _; rw [HP.out, if_neg hx, List.append_nil]
        clear HP hx
        go_wp2
        go_roundw
        case rel => exact ⟨n + 1, m, p, c, by omega, by go_num, rfl, by rw [HP2.out]; exact HM.out, by rw [HP2.out]; exact own_below oq (bel_self _ _), (hbw.alloc hbw.size _)⟩
        case measure => simp [intOf]; omega
    · have hn12 : n = 12 := by omega
      subst hn12
      have he : m = _ := HM.out.symm.trans HMM.out
      subst he
      go_wp2
      go_ret
      exact ⟨_, _, rfl, own_mono oq bW.size, bel_call bW (Nat.le_refl _) hbw⟩
set_option maxHeartbeats 1000000 in
theorem semas_any (x : Tw) (T : Tb) (w : World) (ht : Tr w x T) (m : Nat) (hm : (plc 1 T.T 12).length = m) :
    Calls Try.prog 28 #[.agg #[.slice x.gp 12 x.gc, .slice x.ip 12 x.ic, .slice x.tp 12 x.tc]] w fun e w' => ∃ (p : Option Addr) (c : Nat), e = .returned (.slice p m c) ∧ Own eI w' w.heap.size 3 p c (plc 1 T.T 12) ∧ Below w.heap.size w w' := by
  have bW := bel_self w (.cells #[.slice x.gp 12 x.gc, .slice x.ip 12 x.ic, .slice x.tp 12 x.tc] 30)
  go_enter Try.func28, Try.ntmps28
  go_wp2_with (go_at_call 50; refine (places_any x T _ (ht.below bW) 1 m hm).mono ?_; rintro e w1 ⟨p, c, rfl, o1, b1⟩)
  go_ret
  exact ⟨_, _, rfl, own_mono o1 bW.size, bel_call bW (Nat.le_refl _) b1⟩
set_option maxHeartbeats 2000000 in
theorem rsemas_any (x : Tw) (T : Tb) (w : World) (ht : Tr w x T) (m : Nat) (hm : (plc 1 T.T 12).length = m) :
    Calls Try.prog 29 #[.agg #[.slice x.gp 12 x.gc, .slice x.ip 12 x.ic, .slice x.tp 12 x.tc]] w fun e w' => ∃ (p : Option Addr) (c : Nat), e = .returned (.slice p m c) ∧ Own eI w' w.heap.size 3 p c (plc 1 T.T 12) ∧ Below w.heap.size w w' := by
  have HMM : Hid ((plc 1 T.T 12).length = m) := hm
  clear hm
  obtain ⟨W, hW⟩ : ∃ W, W = w.alloc (.cells #[.slice x.gp 12 x.gc, .slice x.ip 12 x.ic, .slice x.tp 12 x.tc] 35) := ⟨_, rfl⟩
  have bW : Below w.heap.size w W := by rw [hW]; exact bel_self _ _
  have hV : Vw W w.heap.size x 35 := by rw [hW]; exact Vw.new _ _ _
  obtain ⟨c0, c1, c2⟩ := hV.at
  have hT := ht.below bW
  go_enter Try.func29, Try.ntmps29
  go_wp2
  rw [← hW]
  clear hW
  go_loopw [3, 4] (fun q i wr => ∃ (n m : Nat) (p : Option Addr) (c : Nat), n ≤ 12 ∧ i = .int .i64 n ∧ q = .slice p m c ∧ (plc 1 T.T n).length = m ∧ Own eI wr W.heap.size 3 p c (plc 1 T.T n) ∧ Below W.heap.size W wr) (fun _ i _ => 12 - (intOf i).toNat)
  case atStart => exact ⟨0, 0, none, 0, Nat.zero_le _, rfl, rfl, rfl, own_nil _ _ _, Below.refl _ _⟩
  case round =>
    obtain ⟨n, m, p, c, hn, rfl, rfl, hm, oq, hbw⟩ := hrel
    have HM : Hid ((plc 1 T.T n).length = m) := hm
    have hm9 : m ≤ 12 := by have := plc_le 1 T.T n; omega
    clear hm
    have V1 := hV.below hbw
    clear c0 c1 c2
    obtain ⟨c0, c1, c2⟩ := V1.at
    by_cases hlt : n < 12
    · obtain ⟨b, o, X, e9, hb, hc, ho⟩ := (hT.below hbw).thing n hlt
      rw [e9] at c2
      obtain ⟨d0, d1, d2, d3, d4, d5, d6, d7, d8, d9⟩ := hc
      have HP : Hid (plc 1 T.T (n + 1) = plc 1 T.T n ++ if X.k = 1 then [(n : Int)] else []) := by
        show _ = _
        rw [ho.k]; rfl
      clear ho e9
      by_cases hx : X.k = 1
      · have hx1 : (X.k == 1) = true := by simpa using hx
        have hx2 : decide (X.k = 1) = true := by simpa using hx
        have HP2 : Hid (plc 1 T.T (n + 1) = plc 1 T.T n ++ [(n : Int)]) := by show _ = _; rw [HP.out, if_pos hx]
        clear HP hx
        go_wp2_with (at_builtin; refine wpList_app tI _ rfl _ _ rfl W.heap.size p c _ m HM.out rfl (own_below oq (bel_self _ _)) _ _ [(n : Int)] 1 rfl rfl (rd_block (heap_at (by simp)) 1 rfl rfl) (by omega) (Nat.le_trans hbw.size (bel_self _ _).size) (m + 1) rfl ?_; intro p5 c5 w5 o5 b5 g5)
        go_roundw
        case rel => exact ⟨n + 1, m + 1, p5, c5, by omega, by go_num, rfl, by rw [HP2.out, List.length_append, HM.out]; rfl, by rw [HP2.out]; exact o5, (hbw.alloc hbw.size _).trans b5⟩
        case measure => simp [intOf]; omega
      · have hx1 : (X.k == 1) = false := by simpa using hx
        have hx2 : decide (X.k = 1) = false := by simpa using hx
        have HP2 : Hid (plc 1 T.T (n + 1) = plc 1 T.T n) := by show _ = _; rw [HP.out, if_neg hx, List.append_nil]
        clear HP hx
        go_wp2
        go_roundw
        case rel => exact ⟨n + 1, m, p, c, by omega, by go_num, rfl, by rw [HP2.out]; exact HM.out, by rw [HP2.out]; exact oq, hbw⟩
        case measure => simp [intOf]; omega
    · have hn12 : n = 12 := by omega
      subst hn12
      have he : m = _ := HM.out.symm.trans HMM.out
      subst he
      go_wp2
      go_ret
      exact ⟨_, _, rfl, own_mono oq bW.size, bel_call bW (Nat.le_refl _) hbw⟩
end Go.Proofs.Ytcncpefdjgnhdaa
