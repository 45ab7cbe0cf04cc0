/-
  What the small functions of package mbox and of the document's own answer hand back: a map of all answers on a box; two rows, two boxes held against each other.
-/
import Derived.Test.YtfghondhonflaaaCuts
namespace Go.Proofs.Ytfghondhonflaaa
open Go.ChangeShapes Go.WideShapes Go.ChangeAt Go.RowKit
attribute [local go_sem ↓] Go.wp_at_zero Go.wp_at_succ

theorem run_makeHint (n : Int) (w : World) : (Instr.makeMap 40 (some (.int .i64 n))).run Try.prog w = .ok (.map (some w.heap.size)) (w.alloc (.map #[] 0)) := by
  simp [Instr.makeMap, run_underlying Try.underlying40, asInt, asIntOf]
theorem IsF.made2 (w : World) (o : Obj) : IsF ((w.alloc o).alloc (.map #[] 0)) (w.heap.size + 1) (fun _ _ => none) := by
  have := IsF.made (w.alloc o)
  simpa using this
set_option maxHeartbeats 1000000 in
theorem looks_any (p : Option Addr) (c : Nat) (L : List Int) (q : Option Addr) (d : Nat) (Q : List Int) (w : World) (hL : Rd eI w p c L) (hQ : Rd eI w q d Q) (n m : Nat) (hn : L.length = n) (hm : Q.length = m) (hn9 : n ≤ 1000) (hm9 : m ≤ 1000) :
    Calls Try.prog 16 #[.agg #[.slice p n c, .slice q m d]] w fun e w' => ∃ b f, e = .returned (.map (some b)) ∧ IsF w' b f ∧ Lk f L Q ∧ w.heap.size ≤ b ∧ Below w.heap.size w w' := by
  have hmm := run_makeHint
  have HN : Hid (L.length = n) := hn
  have HM : Hid (Q.length = m) := hm
  have hW0 := IsF.made2 w (.cells #[.slice p n c, .slice q m d] 25)
  have hB0 : Below w.heap.size w ((w.alloc (.cells #[.slice p n c, .slice q m d] 25)).alloc (.map #[] 0)) := ((Below.refl _ _).alloc (Nat.le_refl _) _).alloc (by simp) _
  have hV0 : Lv ((w.alloc (.cells #[.slice p n c, .slice q m d] 25)).alloc (.map #[] 0)) w.heap.size #[.slice p n c, .slice q m d] 25 := (Lv.new _ _ _).below (bel_self _ _)
  clear hn hm
  go_enter Try.func16, Try.ntmps16
  go_wp2
  obtain ⟨W, hW⟩ : ∃ W, W = (w.alloc (.cells #[.slice p n c, .slice q m d] 25)).alloc (.map #[] 0) := ⟨_, rfl⟩
  obtain ⟨g, hg⟩ : ∃ g, g = w.heap.size + 1 := ⟨_, rfl⟩
  rw [← hW] at hW0 hB0 hV0 ⊢
  rw [← hg] at hW0
  simp only [← hg]
  have hgW := hW0.lt
  have hgw : w.heap.size ≤ g := by omega
  have hgv : w.heap.size < g := by omega
  clear hW hg
  go_loopw [4, 5, 20] (fun _ _ i wr => ∃ (k : Nat) (f : Int → Int → Option Int), k ≤ n ∧ i = .int .i64 k ∧ Below w.heap.size w wr ∧ Lv wr w.heap.size #[.slice p n c, .slice q m d] 25 ∧ IsF wr g f ∧ Lk f (L.take k) []) (fun _ _ i _ => n - (intOf i).toNat)
  case atStart => exact ⟨0, _, Nat.zero_le _, rfl, hB0, hV0, hW0, Lk.none⟩
  case round =>
    obtain ⟨k, f, hk, rfl, hbw, hv, hf, hlk⟩ := hrel
    clear hW0 hB0 hV0 hgW
    by_cases hlt : k < n
    · have hkl : k < L.length := by rw [HN.out]; exact hlt
      have hlk2 := hlk.letter hkl
      obtain ⟨b, o, rfl, hb, hc⟩ := (hL.below hbw).num k hkl
      generalize L[k] = x at *
      go_wp2_with (at_mapUpdate; refine wpList_store _ rfl _ _ _ rfl g f rfl hf 0 (k : Int) x rfl rfl ?_; intro w4 hf4 hb4)
      go_roundw
      case rel => exact ⟨k + 1, _, by omega, by go_num, hbw.trans (hb4 _ hgw), (hb4 g (Nat.le_refl _)).block _ hgv |>.trans hv, hf4, hlk2⟩
      case measure => simp [intOf]; omega
    · have hkn : k = n := by omega
      subst hkn
      rw [← HN.out, List.take_length] at hlk
      have c0 := hv.c 0 rfl
      have c1 := hv.c 1 rfl
      go_wp2
      obtain ⟨wo, hwo⟩ : ∃ wo : World, wo = wr := ⟨_, rfl⟩
      subst hwo
      go_loopw [6, 7, 33] (fun _ _ i wr => ∃ (j : Nat) (f : Int → Int → Option Int), j ≤ m ∧ i = .int .i64 j ∧ Below w.heap.size w wr ∧ IsF wr g f ∧ Lk f L (Q.take j)) (fun _ _ i _ => m - (intOf i).toNat)
      case atStart => exact ⟨0, f, Nat.zero_le _, rfl, hbw, hf, hlk⟩
      case round =>
        obtain ⟨j, f2, hj, rfl, hbw2, hf2, hlk2⟩ := hrel
        clear hlk hf hv c0 c1 hbw
        by_cases hltj : j < m
        · have hjl : j < Q.length := by rw [HM.out]; exact hltj
          have hlk3 := hlk2.who hjl
          obtain ⟨b, o, rfl, hb, hc⟩ := (hQ.below hbw2).num j hjl
          generalize Q[j] = x at *
          go_wp2_with (first
            | (at_mapUpdate; refine wpList_store _ rfl _ _ _ rfl g f2 rfl hf2 1 (j : Int) x rfl rfl ?_; intro w4 hf4 hb4)
            | (at_mapUpdate; refine wpList_store _ rfl _ _ _ rfl g _ rfl hf4 2 x (j : Int) rfl rfl ?_; intro w5 hf5 hb5))
          go_roundw
          case rel => exact ⟨j + 1, _, by omega, by go_num, (hbw2.trans (hb4 _ hgw)).trans (hb5 _ hgw), hf5, hlk3⟩
          case measure => simp [intOf]; omega
        · have hjm : j = m := by omega
          subst hjm
          rw [← HM.out, List.take_length] at hlk2
          go_wp2
          go_ret
          exact ⟨_, _, rfl, hf2, hlk2, hgw, hbw2⟩
theorem sameints_yes (p : Option Addr) (c : Nat) (q : Option Addr) (d : Nat) (l : List Int) (w : World) (h1 : Rd eI w p c l) (h2 : Rd eI w q d l) (n : Nat) (hn : l.length = n) (hn9 : n ≤ 1000) :
    Calls Try.prog 14 #[.slice p n c, .slice q n d] w fun e w' => e = .returned (.bool true) ∧ Below w.heap.size w w' := by
  have HN : Hid (l.length = n) := hn
  clear hn
  go_enter Try.func14, Try.ntmps14
  go_wp2
  go_loopw [5] (fun i wr => ∃ k : Nat, k ≤ n ∧ i = .int .i64 k ∧ Below w.heap.size w wr) (fun i _ => n - (intOf i).toNat)
  case atStart => exact ⟨0, Nat.zero_le _, rfl, Below.refl _ _⟩
  case round =>
    obtain ⟨k, hk, rfl, hbw⟩ := hrel
    by_cases hlt : k < n
    · have hkl : k < l.length := by rw [HN.out]; exact hlt
      obtain ⟨b, o, rfl, hb, hc⟩ := (h1.below hbw).num k hkl
      obtain ⟨b2, o2, rfl, hb2, hc2⟩ := (h2.below hbw).num k hkl
      generalize l[k] = x at *
      go_wp2
      go_quiet (fail)
      go_wp2
      go_roundw
      case rel => exact ⟨k + 1, by omega, by go_num, bel_draws hbw nq⟩
      case measure => simp [intOf]; omega
    · have hkn : k = n := by omega
      subst hkn
      go_wp2
      go_ret
      exact ⟨rfl, hbw⟩
end Go.Proofs.Ytfghondhonflaaa
