/-
  What Raise, slices.Clone, waits hand back; rows, flags held against each other; clients; Reset.
-/
import Derived.Test.YtodboigmmekkpaaShare
namespace Go.Proofs.Ytodboigmmekkpaa
open Go.ChangeShapes Go.WideShapes Go.ChangeAt Go.RowKit
attribute [local go_sem ↓] Go.wp_at_zero Go.wp_at_succ

set_option maxHeartbeats 2000000 in
theorem raise_any (b m : Nat) (p : Option Addr) (c : Nat) (l : List Wt) (w : World) (hb32 : b < 4294967296) (hm32 : m < 4294967296) (h : Rd eW w p c l) (hU : UL l) (n : Nat) (hn : l.length = n) (hn9 : n ≤ 1000) :
    Calls Try.prog 8 #[.agg #[.int .u32 (b : Int), .slice p n c], .int .u32 (m : Int)] w fun e w' => ∃ (q : Option Addr) (d : Nat) (u : Option Addr) (v : Nat), e = .returned (.tuple #[.agg #[.int .u32 ((lf (b ||| m) l : Nat) : Int), .slice q (kp (b ||| m) l).length d], .slice u (tl (b ||| m) l).length v]) ∧ Own eW w' w.heap.size 43 q d (kp (b ||| m) l) ∧ Own eW w' w.heap.size 43 u v (tl (b ||| m) l) ∧ Two q u ∧ Below w.heap.size w w' := by
  have hor := u32_or_nat b m hb32 hm32
  have HN : Hid (l.length = n) := hn
  have h32 := or_lt hb32 hm32
  clear hn
  obtain ⟨W, hW⟩ : ∃ W, W = (w.alloc (.cells #[.int .u32 (b : Int), .slice p n c] 25)).alloc (.cells #[.int .u32 0, .slice none 0 0] 25) := ⟨_, rfl⟩
  have bW : Below w.heap.size w W := by rw [hW]; exact ((Below.refl _ _).alloc (Nat.le_refl _) _).alloc (by simp) _
  have hr0 : Fv W (w.heap.size + 1) 0 none 0 0 := by rw [hW]; exact heap_at (by simp)
  generalize b ||| m = B at *
  go_enter Try.func8, Try.ntmps8
  go_wp2_with (go_at_call 17; rw [← hW]; refine (share_any B _ _ l _ h32 (h.below bW) hU n HN.out hn9).mono ?_; rintro e w1 ⟨q, d, u, v, rfl, o1, o2, t2, b1⟩; have hr1 := hr0.below b1; have x0 := hr1.c0; have x1 := hr1.c1; have v0 := hr1.f0; have v1 := hr1.f1)
  have hr9 : Fv ((w1.setCell ⟨w.heap.size + 1, 0, none⟩ (.int .u32 ((lf B l : Nat) : Int))).setCell ⟨w.heap.size + 1, 1, none⟩ (.slice q (kp B l).length d)) (w.heap.size + 1) (lf B l) q (kp B l).length d := by
    have := (Lv.set hr1 0 (.int .u32 ((lf B l : Nat) : Int))).set 1 (.slice q (kp B l).length d)
    simpa [Fv] using this
  have e9 := loadFlag hr9
  have f1 := Far.type o1 hr1 (by decide)
  have f2 := Far.type o2 hr1 (by decide)
  refine bodyPost_ret (v := .tuple #[.agg #[.int .u32 ((lf B l : Nat) : Int), .slice q (kp B l).length d], .slice u (tl B l).length v]) (by simp [results, Try.results8, asAddr, e9]) rfl ⟨q, d, u, v, rfl, own_setFar (own_setFar (own_mono o1 bW.size) f1 0 _) f1 1 _, own_setFar (own_setFar (own_mono o2 bW.size) f2 0 _) f2 1 _, t2, ?_⟩
  refine Below.setCell (Below.setCell (bel_call bW (Nat.le_refl _) b1) ?_ _) ?_ _
  · exact Nat.le_succ _
  · exact Nat.le_succ _
theorem cloneW (q : Option Addr) (d k : Nat) (l : List Wt) (w : World) (hR : Rd eW w q d l) (hk : l.length = k) (hk3 : k ≤ 1000) :
    Calls Try.prog 18 #[.slice q k d] w fun e w' => ∃ (q9 : Option Addr) (d9 : Nat), e = .returned (.slice q9 k d9) ∧ Own eW w' w.heap.size 43 q9 d9 l ∧ Below w.heap.size w w' := by
  have hnil : ∀ (w : World) (a : Option Addr) (n c : Nat), (binOp .eql 23 (.slice a n c) (.slice none 0 0)).run Try.prog w = .ok (.bool a.isNone) w := fun w a n c => Lib.run_eql_slice_nil w 23 43 a n c 0 0 Try.underlying23
  have HK : Hid (l.length = k) := hk
  cases q with
  | none =>
    obtain ⟨rfl, rfl⟩ : l = [] ∧ d = 0 := by
      rcases hR.at_ with ⟨_, h1, h2⟩ | ⟨b, o, s, h, _, _⟩
      · exact ⟨h1, h2⟩
      · cases h
    obtain rfl : k = 0 := hk.symm
    clear hk
    go_enter Try.func18, Try.ntmps18
    go_wp2
    go_ret
    exact ⟨_, _, rfl, own_nil _ _ _, Below.refl _ _⟩
  | some a =>
    clear hk
    go_enter Try.func18, Try.ntmps18
    go_wp2_with (first
      | (at_builtin; refine wpList_app tW _ rfl _ _ rfl w.heap.size _ _ [] 0 rfl rfl (own_blockg (by simp) (by omega) rfl 0 rfl (by decide)) (some a) d l k HK.out rfl (hR.below ((Below.refl _ _).alloc (Nat.le_refl _) _)) (by omega) (by simp) k (by omega) ?_; intro p5 c5 w5 o5 b5 st5))
    go_ret
    exact ⟨_, _, rfl, by simpa using o5, ((Below.refl _ _).alloc (Nat.le_refl _) _).trans b5⟩

/-! waits -/
theorem isit_any (x : Int) (m : Nat) (g : Nat) (cl : Int) (w : World) (hg : Lv w g #[.int .i64 cl] 3) :
    Calls Try.prog 22 #[.agg #[.int .i64 x, .int .u32 (m : Int)], .pointer (some ⟨g, 0, none⟩)] w fun e w' => e = .returned (.bool (x == cl)) ∧ Below w.heap.size w w' := by
  have hg1 := hg.below (bel_self w (.cells #[.int .i64 x, .int .u32 (m : Int)] 43))
  have c0 := hg1.c 0 rfl
  have hlt := hg.lt
  go_enter Try.func22, Try.ntmps22
  go_wp2
  go_ret
  exact ⟨rfl, bel_self _ _⟩
theorem idx_any (p : Option Addr) (c : Nat) (l : List Wt) (g : Nat) (cl : Int) (w : World) (h : Rd eW w p c l) (hg : Lv w g #[.int .i64 cl] 3) (n : Nat) (hn : l.length = n) (hn9 : n ≤ 1000) :
    Calls Try.prog 24 #[.slice p n c, .func (.func 22) #[] #[.pointer (some ⟨g, 0, none⟩)]] w fun e w' => (∃ r : Int, e = .returned (.int .i64 r) ∧ decide (0 ≤ r) = l.any (·.1 == cl)) ∧ Below w.heap.size w w' := by
  have HN : Hid (l.length = n) := hn
  clear hn
  go_enter Try.func24, Try.ntmps24
  go_wp2
  go_loopw [8] (fun i wr => ∃ j : Nat, j ≤ n ∧ i = .int .i64 j ∧ Below w.heap.size w wr ∧ ∀ a (ha : a < l.length), a < j → (l[a]).1 ≠ cl) (fun i _ => n - (intOf i).toNat)
  case atStart => exact ⟨0, Nat.zero_le _, rfl, Below.refl _ _, fun a _ ha => absurd ha (Nat.not_lt_zero _)⟩
  case round =>
    obtain ⟨j, hj, rfl, hbw, hall⟩ := hrel
    have HL : Hid (∀ a (ha : a < l.length), a < j → (l[a]).1 ≠ cl) := hall
    clear hall
    by_cases hlt : j < n
    · have hjl : j < l.length := by rw [HN.out]; exact hlt
      obtain ⟨b, o, rfl, hb, hc0, hc1⟩ := (h.below hbw).wt j hjl
      have hgw := hg.below hbw
      obtain ⟨x, hx⟩ : ∃ x, (l[j]).1 = x := ⟨_, rfl⟩
      have HX : Hid ((l[j]).1 = x) := hx
      rw [hx] at hc0
      clear hx
      generalize (l[j]).2 = m at hc1
      by_cases he : x = cl
      · have hd : (x == cl) = true := by simpa using he
        have HE : Hid (x = cl) := he
        clear he
        go_wp2_with (go_at_call 22; refine (isit_any x m g cl _ hgw).mono ?_; rintro e w1 ⟨rfl, b1⟩)
        go_ret
        refine ⟨⟨_, rfl, ?_⟩, bel_call hbw (Nat.le_refl _) b1⟩
        rw [List.any_eq_true.2 ⟨l[j], List.getElem_mem hjl, by rw [HX.out, HE.out]; simp⟩]
        simp
      · have hd : (x == cl) = false := by simpa using he
        have HE : Hid (x ≠ cl) := he
        clear he
        go_wp2_with (go_at_call 22; refine (isit_any x m g cl _ hgw).mono ?_; rintro e w1 ⟨rfl, b1⟩)
        go_roundw
        case rel => exact ⟨j + 1, by omega, by go_num, bel_call hbw (Nat.le_refl _) b1, fun a ha hlt => by
          by_cases e : a = j
          · subst e; rw [HX.out]; exact HE.out
          · exact HL.out a ha (by omega)⟩
        case measure => simp [intOf]; omega
    · have hjn : j = n := by omega
      subst hjn
      go_wp2
      go_ret
      refine ⟨⟨_, rfl, ?_⟩, hbw⟩
      have : l.any (·.1 == cl) = false := by
        rw [List.any_eq_false]
        intro y hy
        obtain ⟨a, ha, rfl⟩ := List.getElem_of_mem hy
        simpa using HL.out a ha (by rw [← HN.out]; exact ha)
      rw [this]
      rfl
theorem contains_any (p : Option Addr) (c : Nat) (l : List Wt) (g : Nat) (cl : Int) (w : World) (h : Rd eW w p c l) (hg : Lv w g #[.int .i64 cl] 3) (n : Nat) (hn : l.length = n) (hn9 : n ≤ 1000) :
    Calls Try.prog 21 #[.slice p n c, .func (.func 22) #[] #[.pointer (some ⟨g, 0, none⟩)]] w fun e w' => e = .returned (.bool (l.any (·.1 == cl))) ∧ Below w.heap.size w w' := by
  have HN : Hid (l.length = n) := hn
  clear hn
  generalize hA : l.any (·.1 == cl) = A
  have HA : Hid (l.any (·.1 == cl) = A) := hA
  clear hA
  go_enter Try.func21, Try.ntmps21
  go_wp2_with (go_at_call 24; refine (idx_any _ _ l g cl _ h hg n HN.out hn9).mono ?_; rintro e w1 ⟨⟨r, rfl, hr⟩, b1⟩; rw [HA.out] at hr)
  go_ret
  exact ⟨rfl, b1⟩
theorem waits_any (p : Option Addr) (c : Nat) (l : List Wt) (cl : Int) (w : World) (h : Rd eW w p c l) (n : Nat) (hn : l.length = n) (hn9 : n ≤ 1000) :
    Calls Try.prog 19 #[.slice p n c, .int .i64 cl] w fun e w' => e = .returned (.bool (l.any (·.1 == cl))) ∧ Below w.heap.size w w' := by
  have hmf : ∀ (fn : Fn) (first cap : Array Value) (w : World), (Instr.makeFunc fn first cap).run Try.prog w = .ok (.func fn first cap) w := fun _ _ _ _ => rfl
  have HN : Hid (l.length = n) := hn
  clear hn
  generalize hA : l.any (·.1 == cl) = A
  have HA : Hid (l.any (·.1 == cl) = A) := hA
  clear hA
  have s1 := bel_self w (.cells #[.int .i64 cl] 3)
  go_enter Try.func19, Try.ntmps19
  go_wp2_with (go_at_call 21; refine (contains_any _ _ l _ cl _ (h.below s1) (Lv.new _ _ _) n HN.out hn9).mono ?_; rw [HA.out]; rintro e w1 ⟨rfl, b1⟩)
  go_ret
  exact ⟨rfl, bel_call s1 (Nat.le_refl _) b1⟩

/-! held against each other -/
theorem samewaiters_yes (p : Option Addr) (c : Nat) (q : Option Addr) (d : Nat) (l : List Wt) (w : World) (h1 : Rd eW w p c l) (h2 : Rd eW w q d l) (n : Nat) (hn : l.length = n) (hn9 : n ≤ 1000) :
    Calls Try.prog 11 #[.slice p n c, .slice q n d] w fun e w' => e = .returned (.bool true) ∧ Below w.heap.size w w' := by
  have HN : Hid (l.length = n) := hn
  clear hn
  go_enter Try.func11, Try.ntmps11
  go_wp2
  go_loopw [5] (fun i wr => ∃ k : Nat, k ≤ n ∧ i = .int .i64 k ∧ Below w.heap.size w wr) (fun i _ => n - (intOf i).toNat)
  case atStart => exact ⟨0, Nat.zero_le _, rfl, Below.refl _ _⟩
  case round =>
    obtain ⟨k, hk, rfl, hbw⟩ := hrel
    by_cases hlt : k < n
    · have hkl : k < l.length := by rw [HN.out]; exact hlt
      obtain ⟨b, o, rfl, hb, hc, hd⟩ := (h1.below hbw).wt k hkl
      obtain ⟨b2, o2, rfl, hb2, hc2, hd2⟩ := (h2.below hbw).wt k hkl
      generalize (l[k]).1 = x at *
      generalize (l[k]).2 = m at *
      go_wp2
      go_quiet (fail)
      go_wp2
      go_roundw
      case rel => exact ⟨k + 1, by omega, by go_num, bel_draws hbw nq⟩
      case measure => simp [intOf]; omega
    · have hkn : k = n := by omega
      subst hkn
      go_wp2
      go_ret
      exact ⟨rfl, hbw⟩
theorem sameints_yes (p : Option Addr) (c : Nat) (q : Option Addr) (d : Nat) (l : List Int) (w : World) (h1 : Rd eI w p c l) (h2 : Rd eI w q d l) (n : Nat) (hn : l.length = n) (hn9 : n ≤ 1000) :
    Calls Try.prog 15 #[.slice p n c, .slice q n d] w fun e w' => e = .returned (.bool true) ∧ Below w.heap.size w w' := by
  have HN : Hid (l.length = n) := hn
  clear hn
  go_enter Try.func15, Try.ntmps15
  go_wp2
  go_loopw [5] (fun i wr => ∃ k : Nat, k ≤ n ∧ i = .int .i64 k ∧ Below w.heap.size w wr) (fun i _ => n - (intOf i).toNat)
  case atStart => exact ⟨0, Nat.zero_le _, rfl, Below.refl _ _⟩
  case round =>
    obtain ⟨k, hk, rfl, hbw⟩ := hrel
    by_cases hlt : k < n
    · have hkl : k < l.length := by rw [HN.out]; exact hlt
      obtain ⟨b, o, rfl, hb, hc⟩ := (h1.below hbw).num k hkl
      obtain ⟨b2, o2, rfl, hb2, hc2⟩ := (h2.below hbw).num k hkl
      generalize l[k] = x at *
      go_wp2
      go_quiet (fail)
      go_wp2
      go_roundw
      case rel => exact ⟨k + 1, by omega, by go_num, bel_draws hbw nq⟩
      case measure => simp [intOf]; omega
    · have hkn : k = n := by omega
      subst hkn
      go_wp2
      go_ret
      exact ⟨rfl, hbw⟩
theorem sameflag_yes (b : Nat) (p : Option Addr) (c : Nat) (q : Option Addr) (d : Nat) (l : List Wt) (w : World) (h1 : Rd eW w p c l) (h2 : Rd eW w q d l) (n : Nat) (hn : l.length = n) (hn9 : n ≤ 1000) :
    Calls Try.prog 10 #[.agg #[.int .u32 (b : Int), .slice p n c], .agg #[.int .u32 (b : Int), .slice q n d]] w fun e w' => e = .returned (.bool true) ∧ Below w.heap.size w w' := by
  have HN : Hid (l.length = n) := hn
  clear hn
  have bW : Below w.heap.size w ((w.alloc (.cells #[.int .u32 (b : Int), .slice p n c] 25)).alloc (.cells #[.int .u32 (b : Int), .slice q n d] 25)) := ((Below.refl _ _).alloc (Nat.le_refl _) _).alloc (by simp) _
  go_enter Try.func10, Try.ntmps10
  go_wp2_with (go_at_call 11; refine (samewaiters_yes _ _ _ _ l _ (h1.below bW) (h2.below bW) n HN.out hn9).mono ?_; rintro e w1 ⟨rfl, b1⟩)
  go_ret
  exact ⟨rfl, bel_call bW (Nat.le_refl _) b1⟩
end Go.Proofs.Ytodboigmmekkpaa
