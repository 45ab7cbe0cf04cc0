/-
  What the small functions of package sema hand back, each by its own Go text: whether there may be such a task, its holder, a clone, a row in other hands, the map of ceilings.
-/
import Derived.Test.YtfankdhkcjknaaaMaps
namespace Go.Proofs.Ytfankdhkcjknaaa
open Go.ChangeShapes Go.WideShapes Go.ChangeAt Go.RowKit
attribute [local go_sem ↓] Go.wp_at_zero Go.wp_at_succ

theorem may_yes (t : Int) (h : 0 ≤ t) (w : World) : Calls Try.prog 18 #[.int .i64 t] w fun e w' => e = .returned (.bool true) ∧ w' = w := by
  have d : decide (0 ≤ t) = true := by simpa using h
  go_enter Try.func18, Try.ntmps18
  go_wp2
  go_ret
  exact ⟨rfl, rfl⟩
theorem holder_any (t H : Int) (h0 : 0 ≤ t) (h1 : t ≤ 4611686018427387904) (hH : t + 1 = H) (w : World) : Calls Try.prog 21 #[.int .i64 t] w fun e w' => e = .returned (.int .i64 H) ∧ w' = w := by
  have HH : Hid (t + 1 = H) := hH
  clear hH
  go_enter Try.func21, Try.ntmps21
  go_wp2
  go_ret
  exact ⟨by rw [HH.out]; rfl, rfl⟩
theorem clone_any (q : Option Addr) (d k : Nat) (l : List Sm) (w : World) (hR : Rd eS w q d l) (hk : l.length = k) (hk3 : k ≤ 1000) :
    Calls Try.prog 19 #[.slice q k d] w fun e w' => ∃ (q9 : Option Addr) (d9 : Nat), e = .returned (.slice q9 k d9) ∧ Own eS w' w.heap.size 36 q9 d9 l ∧ Below w.heap.size w w' := by
  have hnil : ∀ (w : World) (a : Option Addr) (n c : Nat), (binOp .eql 22 (.slice a n c) (.slice none 0 0)).run Try.prog w = .ok (.bool a.isNone) w := fun w a n c => Lib.run_eql_slice_nil w 22 36 a n c 0 0 Try.underlying22
  have HK : Hid (l.length = k) := hk
  cases q with
  | none =>
    obtain ⟨rfl, rfl⟩ : l = [] ∧ d = 0 := by
      rcases hR.at_ with ⟨_, h1, h2⟩ | ⟨b, o, s, h, _, _⟩
      · exact ⟨h1, h2⟩
      · cases h
    obtain rfl : k = 0 := hk.symm
    clear hk
    go_enter Try.func19, Try.ntmps19
    go_wp2
    go_ret
    exact ⟨_, _, rfl, own_nil _ _ _, Below.refl _ _⟩
  | some a =>
    clear hk
    go_enter Try.func19, Try.ntmps19
    go_wp2_with (first
      | (at_builtin; refine wpList_app tS _ rfl _ _ rfl w.heap.size _ _ [] 0 rfl rfl (own_blockg (by simp) (by omega) rfl 0 rfl (by decide)) (some a) d l k HK.out rfl (hR.below ((Below.refl _ _).alloc (Nat.le_refl _) _)) (by omega) (by simp) k (by omega) ?_; intro p5 c5 w5 o5 b5 st5))
    go_ret
    exact ⟨_, _, rfl, by simpa using o5, ((Below.refl _ _).alloc (Nat.le_refl _) _).trans b5⟩
theorem given_any (p : Option Addr) (c : Nat) (l : List Sm) (w : World) (hr : Rd eS w p c l) (n : Nat) (hn : l.length = n) (hm : n ≤ 1000) (s : Int) (k : Nat) (hk : k < n) (hs : s = (k : Int)) (H : Int) :
    Calls Try.prog 20 #[.slice p n c, .int .i64 s, .int .i64 H] w fun e w' => ∃ (q : Option Addr) (d : Nat), e = .returned (.slice q n d) ∧ Own eS w' w.heap.size 36 q d (putS l s H) ∧ Below w.heap.size w w' := by
  have HN : Hid (l.length = n) := hn
  clear hn
  have hkl : k < l.length := by rw [HN.out]; exact hk
  have HP : Hid (putS l s H = l.set k (l[k].1, H)) := by subst hs; exact putS_set hkl H
  go_enter Try.func20, Try.ntmps20
  subst hs
  go_wp2_with (first
    | (go_at_call 19; refine (clone_any _ _ _ _ _ hr HN.out hm).mono ?_; rintro e w1 ⟨q1, d1, rfl, o1, b1⟩
       obtain ⟨b, rfl, hb0, hb1, hfr, hc, hown⟩ := own_hold o1 k hkl
       have z1 := hfr (0 + k * 2 + 1); have z2 := hfr (k * 2 + 1)))
  go_ret
  refine ⟨_, _, rfl, ?_, ?_⟩
  · rw [HP.out]
    exact hown H
  · exact b1.setCell hb0 _
theorem run_makeHint (n : Int) (w : World) : (Instr.makeMap 41 (some (.int .i64 n))).run Try.prog w = .ok (.map (some w.heap.size)) (w.alloc (.map #[] 0)) := by
  simp [Instr.makeMap, run_underlying Try.underlying41, asInt, asIntOf]
theorem ceils_any (p : Option Addr) (c : Nat) (l : List Sm) (w : World) (hr : Rd eS w p c l) (n : Nat) (hn : l.length = n) (hm : n ≤ 1000) :
    Calls Try.prog 17 #[.slice p n c] w fun e w' => ∃ b, e = .returned (.map (some b)) ∧ IsMp w' b (ents 0 l) ∧ Below w.heap.size w w' := by
  have hmm := run_makeHint
  have hW0 := IsMp.made w
  have hB0 : Below w.heap.size w (w.alloc (.map #[] 0)) := (Below.refl _ _).alloc (Nat.le_refl _) _
  have HN : Hid (l.length = n) := hn
  clear hn
  go_enter Try.func17, Try.ntmps17
  go_wp2
  go_loopw [4, 5, 11] (fun _ _ i wr => ∃ k : Nat, k ≤ n ∧ i = .int .i64 k ∧ Below w.heap.size w wr ∧ IsMp wr w.heap.size (ents 0 (l.take k))) (fun _ _ i _ => n - (intOf i).toNat)
  case atStart => exact ⟨0, Nat.zero_le _, rfl, hB0, hW0⟩
  case round =>
    obtain ⟨k, hk, rfl, hbw, hmp⟩ := hrel
    clear hW0 hB0
    by_cases hlt : k < n
    · have hkl : k < l.length := by rw [HN.out]; exact hlt
      obtain ⟨b, o, rfl, hb, hc1, hc2⟩ := (hr.below hbw).sem k hkl
      have HE : Hid (ents 0 (l.take (k + 1)) = ents 0 (l.take k) ++ [(((k : Int), l[k].2), l[k].1)]) := ents_take hkl
      have hf : lookE (ents 0 (l.take k)) (k : Int) l[k].2 = none := lookE_none (fun x hx => by have := (ents_key 0 _ x hx).2; simp at this; omega)
      have hsz : w.heap.size < wr.heap.size := hmp.lt
      generalize hE : ents 0 (l.take k) = E at *
      generalize l[k].1 = xa at *
      generalize l[k].2 = xk at *
      clear hE
      go_wp2_with (first
        | (at_mapUpdate; refine wpList_store _ rfl _ _ _ rfl w.heap.size E rfl (hmp.below ((Below.refl _ _).alloc (Nat.le_refl _) _)) (k : Int) xk xa rfl rfl hf ?_; intro w4 hm4 hb4))
      have hb5 := hb4 w.heap.size (Nat.le_refl _)
      go_roundw
      case rel => exact ⟨k + 1, by omega, by go_num, hbw.trans (((Below.refl _ _).alloc (by omega) _).trans hb5), by rw [HE.out]; exact hm4⟩
      case measure => simp [intOf]; omega
    · have hkn : k = n := by omega
      subst hkn
      rw [← HN.out, List.take_length] at hmp
      go_wp2
      go_ret
      exact ⟨_, rfl, hmp, hbw⟩
end Go.Proofs.Ytfankdhkcjknaaa
