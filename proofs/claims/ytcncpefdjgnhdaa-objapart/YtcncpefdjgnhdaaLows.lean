/-
  Rows cloned, rows, boxes, flags held against each other; who waits; what Reset hands back.
-/
import Derived.Test.YtcncpefdjgnhdaaElts
import Derived.Test.YtcncpefdjgnhdaaHand
namespace Go.Proofs.Ytcncpefdjgnhdaa
open Go.ChangeShapes Go.WideShapes Go.ChangeAt Go.RowKit
attribute [local go_sem ↓] Go.wp_at_zero Go.wp_at_succ

/-- A flag's variable. -/
def Fv (w : World) (g b : Nat) (p : Option Addr) (n c : Nat) : Prop := Lv w g #[.int .u32 (b : Int), .slice p n c] 47
theorem Fv.c0 {w : World} {g b : Nat} {p : Option Addr} {n c : Nat} (h : Fv w g b p n c) : w.cell? ⟨g, 0, none⟩ = some (.int .u32 (b : Int)) := Lv.c h 0 rfl
theorem Fv.c1 {w : World} {g b : Nat} {p : Option Addr} {n c : Nat} (h : Fv w g b p n c) : w.cell? ⟨g, 1, none⟩ = some (.slice p n c) := Lv.c h 1 rfl
theorem Fv.f0 {w : World} {g b : Nat} {p : Option Addr} {n c : Nat} (h : Fv w g b p n c) : w.frozen? ⟨g, 0, none⟩ = false := Lv.fz h 0
theorem Fv.f1 {w : World} {g b : Nat} {p : Option Addr} {n c : Nat} (h : Fv w g b p n c) : w.frozen? ⟨g, 1, none⟩ = false := Lv.fz h 1
theorem Fv.new (w : World) (b : Nat) (p : Option Addr) (n c : Nat) : Fv (w.alloc (.cells #[.int .u32 (b : Int), .slice p n c] 47)) w.heap.size b p n c := Lv.new _ _ _
theorem Fv.below {w w' : World} {g b : Nat} {p : Option Addr} {n c : Nat} (h : Fv w g b p n c) (hb : Below w.heap.size w w') : Fv w' g b p n c := Lv.below h hb
theorem Fv.lt {w : World} {g b : Nat} {p : Option Addr} {n c : Nat} (h : Fv w g b p n c) : g < w.heap.size := Lv.lt h
theorem Fv.drw {w : World} {g b : Nat} {p : Option Addr} {n c : Nat} (h : Fv w g b p n c) : Fv w.drew g b p n c := h
theorem loadFlag {w : World} {g : Nat} {x y : Value} (h : Lv w g #[x, y] 47) : (loadVar 47 ⟨g, 0, none⟩).run Try.prog w = .ok (.agg #[x, y]) w := by
  have c0 := h.c 0 rfl
  have c1 := h.c 1 rfl
  simp [go_sem, c0, c1]
theorem take_next (l : List Wt) (i : Nat) (h : i < l.length) : l.take (i + 1) = l.take i ++ [l[i]] := by
  rw [List.take_add_one, List.getElem?_eq_getElem h]; rfl
theorem len_take {l : List Wt} {k : Nat} (h : k ≤ l.length) : (l.take k).length = k := by simp; omega
theorem cloneW (q : Option Addr) (d k : Nat) (l : List Wt) (w : World) (hR : Rd eW w q d l) (hk : l.length = k) (hk3 : k ≤ 1000) :
    Calls Try.prog 70 #[.slice q k d] w fun e w' => ∃ (q9 : Option Addr) (d9 : Nat), e = .returned (.slice q9 k d9) ∧ Own eW w' w.heap.size 138 q9 d9 l ∧ Below w.heap.size w w' := by
  have hnil : ∀ (w : World) (a : Option Addr) (n c : Nat), (binOp .eql 45 (.slice a n c) (.slice none 0 0)).run Try.prog w = .ok (.bool a.isNone) w := fun w a n c => Lib.run_eql_slice_nil w 45 138 a n c 0 0 Try.underlying45
  have HK : Hid (l.length = k) := hk
  cases q with
  | none =>
    obtain ⟨rfl, rfl⟩ : l = [] ∧ d = 0 := by
      rcases hR.at_ with ⟨_, h1, h2⟩ | ⟨b, o, s, h, _, _⟩
      · exact ⟨h1, h2⟩
      · cases h
    obtain rfl : k = 0 := hk.symm
    clear hk
    go_enter Try.func70, Try.ntmps70
    go_wp2
    go_ret
    exact ⟨_, _, rfl, own_nil _ _ _, Below.refl _ _⟩
  | some a =>
    clear hk
    go_enter Try.func70, Try.ntmps70
    go_wp2_with (first
      | (at_builtin; refine wpList_app tW _ rfl _ _ rfl w.heap.size _ _ [] 0 rfl rfl (own_blockg (by simp) (by omega) rfl 0 rfl (by decide)) (some a) d l k HK.out rfl (hR.below ((Below.refl _ _).alloc (Nat.le_refl _) _)) (by omega) (by simp) k (by omega) ?_; intro p5 c5 w5 o5 b5 st5))
    go_ret
    exact ⟨_, _, rfl, by simpa using o5, ((Below.refl _ _).alloc (Nat.le_refl _) _).trans b5⟩

theorem cloneI (q : Option Addr) (d k : Nat) (l : List Int) (w : World) (hR : Rd eI w q d l) (hk : l.length = k) (hk3 : k ≤ 1000) :
    Calls Try.prog 59 #[.slice q k d] w fun e w' => ∃ (q9 : Option Addr) (d9 : Nat), e = .returned (.slice q9 k d9) ∧ Own eI w' w.heap.size 3 q9 d9 l ∧ Below w.heap.size w w' := by
  have hnil : ∀ (w : World) (a : Option Addr) (n c : Nat), (binOp .eql 24 (.slice a n c) (.slice none 0 0)).run Try.prog w = .ok (.bool a.isNone) w := fun w a n c => Lib.run_eql_slice_nil w 24 3 a n c 0 0 Try.underlying24
  have HK : Hid (l.length = k) := hk
  cases q with
  | none =>
    obtain ⟨rfl, rfl⟩ : l = [] ∧ d = 0 := by
      rcases hR.at_ with ⟨_, h1, h2⟩ | ⟨b, o, s, h, _, _⟩
      · exact ⟨h1, h2⟩
      · cases h
    obtain rfl : k = 0 := hk.symm
    clear hk
    go_enter Try.func59, Try.ntmps59
    go_wp2
    go_ret
    exact ⟨_, _, rfl, own_nil _ _ _, Below.refl _ _⟩
  | some a =>
    clear hk
    go_enter Try.func59, Try.ntmps59
    go_wp2_with (first
      | (at_builtin; refine wpList_app tI _ rfl _ _ rfl w.heap.size _ _ [] 0 rfl rfl (own_blockg (by simp) (by omega) rfl 0 rfl (by decide)) (some a) d l k HK.out rfl (hR.below ((Below.refl _ _).alloc (Nat.le_refl _) _)) (by omega) (by simp) k (by omega) ?_; intro p5 c5 w5 o5 b5 st5))
    go_ret
    exact ⟨_, _, rfl, by simpa using o5, ((Below.refl _ _).alloc (Nat.le_refl _) _).trans b5⟩

theorem cloneB (q : Option Addr) (d k : Nat) (l : List Bool) (w : World) (hR : Rd eB w q d l) (hk : l.length = k) (hk3 : k ≤ 1000) :
    Calls Try.prog 60 #[.slice q k d] w fun e w' => ∃ (q9 : Option Addr) (d9 : Nat), e = .returned (.slice q9 k d9) ∧ Own eB w' w.heap.size 4 q9 d9 l ∧ Below w.heap.size w w' := by
  have hnil : ∀ (w : World) (a : Option Addr) (n c : Nat), (binOp .eql 25 (.slice a n c) (.slice none 0 0)).run Try.prog w = .ok (.bool a.isNone) w := fun w a n c => Lib.run_eql_slice_nil w 25 4 a n c 0 0 Try.underlying25
  have HK : Hid (l.length = k) := hk
  cases q with
  | none =>
    obtain ⟨rfl, rfl⟩ : l = [] ∧ d = 0 := by
      rcases hR.at_ with ⟨_, h1, h2⟩ | ⟨b, o, s, h, _, _⟩
      · exact ⟨h1, h2⟩
      · cases h
    obtain rfl : k = 0 := hk.symm
    clear hk
    go_enter Try.func60, Try.ntmps60
    go_wp2
    go_ret
    exact ⟨_, _, rfl, own_nil _ _ _, Below.refl _ _⟩
  | some a =>
    clear hk
    go_enter Try.func60, Try.ntmps60
    go_wp2_with (first
      | (at_builtin; refine wpList_app tB _ rfl _ _ rfl w.heap.size _ _ [] 0 rfl rfl (own_blockg (by simp) (by omega) rfl 0 rfl (by decide)) (some a) d l k HK.out rfl (hR.below ((Below.refl _ _).alloc (Nat.le_refl _) _)) (by omega) (by simp) k (by omega) ?_; intro p5 c5 w5 o5 b5 st5))
    go_ret
    exact ⟨_, _, rfl, by simpa using o5, ((Below.refl _ _).alloc (Nat.le_refl _) _).trans b5⟩

theorem cloneL (q : Option Addr) (d k : Nat) (l : List Int) (w : World) (hR : Rd eI w q d l) (hk : l.length = k) (hk3 : k ≤ 1000) :
    Calls Try.prog 69 #[.slice q k d] w fun e w' => ∃ (q9 : Option Addr) (d9 : Nat), e = .returned (.slice q9 k d9) ∧ Own eI w' w.heap.size 2 q9 d9 l ∧ Below w.heap.size w w' := by
  have hnil : ∀ (w : World) (a : Option Addr) (n c : Nat), (binOp .eql 41 (.slice a n c) (.slice none 0 0)).run Try.prog w = .ok (.bool a.isNone) w := fun w a n c => Lib.run_eql_slice_nil w 41 2 a n c 0 0 Try.underlying41
  have HK : Hid (l.length = k) := hk
  cases q with
  | none =>
    obtain ⟨rfl, rfl⟩ : l = [] ∧ d = 0 := by
      rcases hR.at_ with ⟨_, h1, h2⟩ | ⟨b, o, s, h, _, _⟩
      · exact ⟨h1, h2⟩
      · cases h
    obtain rfl : k = 0 := hk.symm
    clear hk
    go_enter Try.func69, Try.ntmps69
    go_wp2
    go_ret
    exact ⟨_, _, rfl, own_nil _ _ _, Below.refl _ _⟩
  | some a =>
    clear hk
    go_enter Try.func69, Try.ntmps69
    go_wp2_with (first
      | (at_builtin; refine wpList_app tL _ rfl _ _ rfl w.heap.size _ _ [] 0 rfl rfl (own_blockg (by simp) (by omega) rfl 0 rfl (by decide)) (some a) d l k HK.out rfl (hR.below ((Below.refl _ _).alloc (Nat.le_refl _) _)) (by omega) (by simp) k (by omega) ?_; intro p5 c5 w5 o5 b5 st5))
    go_ret
    exact ⟨_, _, rfl, by simpa using o5, ((Below.refl _ _).alloc (Nat.le_refl _) _).trans b5⟩

theorem cloneT (q : Option Addr) (d k : Nat) (l : List Tc) (w : World) (hR : Rd eT w q d l) (hk : l.length = k) (hk3 : k ≤ 1000) :
    Calls Try.prog 61 #[.slice q k d] w fun e w' => ∃ (q9 : Option Addr) (d9 : Nat), e = .returned (.slice q9 k d9) ∧ Own eT w' w.heap.size 58 q9 d9 l ∧ Below w.heap.size w w' := by
  have hnil : ∀ (w : World) (a : Option Addr) (n c : Nat), (binOp .eql 28 (.slice a n c) (.slice none 0 0)).run Try.prog w = .ok (.bool a.isNone) w := fun w a n c => Lib.run_eql_slice_nil w 28 58 a n c 0 0 Try.underlying28
  have HK : Hid (l.length = k) := hk
  cases q with
  | none =>
    obtain ⟨rfl, rfl⟩ : l = [] ∧ d = 0 := by
      rcases hR.at_ with ⟨_, h1, h2⟩ | ⟨b, o, s, h, _, _⟩
      · exact ⟨h1, h2⟩
      · cases h
    obtain rfl : k = 0 := hk.symm
    clear hk
    go_enter Try.func61, Try.ntmps61
    go_wp2
    go_ret
    exact ⟨_, _, rfl, own_nil _ _ _, Below.refl _ _⟩
  | some a =>
    clear hk
    go_enter Try.func61, Try.ntmps61
    go_wp2_with (first
      | (at_builtin; refine wpList_app tT _ rfl _ _ rfl w.heap.size _ _ [] 0 rfl rfl (own_blockg (by simp) (by omega) rfl 0 rfl (by decide)) (some a) d l k HK.out rfl (hR.below ((Below.refl _ _).alloc (Nat.le_refl _) _)) (by omega) (by simp) k (by omega) ?_; intro p5 c5 w5 o5 b5 st5))
    go_ret
    exact ⟨_, _, rfl, by simpa using o5, ((Below.refl _ _).alloc (Nat.le_refl _) _).trans b5⟩

/-! held against each other -/
theorem samewaiters_yes (p : Option Addr) (c : Nat) (q : Option Addr) (d : Nat) (l : List Wt) (w : World) (h1 : Rd eW w p c l) (h2 : Rd eW w q d l) (n : Nat) (hn : l.length = n) (hn9 : n ≤ 1000) :
    Calls Try.prog 58 #[.slice p n c, .slice q n d] w fun e w' => e = .returned (.bool true) ∧ Below w.heap.size w w' := by
  have HN : Hid (l.length = n) := hn
  clear hn
  go_enter Try.func58, Try.ntmps58
  go_wp2
  go_loopw [5] (fun i wr => ∃ k : Nat, k ≤ n ∧ i = .int .i64 k ∧ Below w.heap.size w wr) (fun i _ => n - (intOf i).toNat)
  case atStart => exact ⟨0, Nat.zero_le _, rfl, Below.refl _ _⟩
  case round =>
    obtain ⟨k, hk, rfl, hbw⟩ := hrel
    by_cases hlt : k < n
    · have hkl : k < l.length := by rw [HN.out]; exact hlt
      obtain ⟨b, o, rfl, hb, hc, hd⟩ := (h1.below hbw).wt k hkl
      obtain ⟨b2, o2, rfl, hb2, hc2, hd2⟩ := (h2.below hbw).wt k hkl
      generalize (l[k]).1 = x at *
      generalize (l[k]).2 = m at *
      go_wp2
      go_quiet (fail)
      go_wp2
      go_roundw
      case rel => exact ⟨k + 1, by omega, by go_num, bel_draws hbw nq⟩
      case measure => simp [intOf]; omega
    · have hkn : k = n := by omega
      subst hkn
      go_wp2
      go_ret
      exact ⟨rfl, hbw⟩
theorem sameints_yes (p : Option Addr) (c : Nat) (q : Option Addr) (d : Nat) (l : List Int) (w : World) (h1 : Rd eI w p c l) (h2 : Rd eI w q d l) (n : Nat) (hn : l.length = n) (hn9 : n ≤ 1000) :
    Calls Try.prog 13 #[.slice p n c, .slice q n d] w fun e w' => e = .returned (.bool true) ∧ Below w.heap.size w w' := by
  have HN : Hid (l.length = n) := hn
  clear hn
  go_enter Try.func13, Try.ntmps13
  go_wp2
  go_loopw [5] (fun i wr => ∃ k : Nat, k ≤ n ∧ i = .int .i64 k ∧ Below w.heap.size w wr) (fun i _ => n - (intOf i).toNat)
  case atStart => exact ⟨0, Nat.zero_le _, rfl, Below.refl _ _⟩
  case round =>
    obtain ⟨k, hk, rfl, hbw⟩ := hrel
    by_cases hlt : k < n
    · have hkl : k < l.length := by rw [HN.out]; exact hlt
      obtain ⟨b, o, rfl, hb, hc⟩ := (h1.below hbw).num k hkl
      obtain ⟨b2, o2, rfl, hb2, hc2⟩ := (h2.below hbw).num k hkl
      generalize l[k] = x at *
      go_wp2
      go_quiet (fail)
      go_wp2
      go_roundw
      case rel => exact ⟨k + 1, by omega, by go_num, bel_draws hbw nq⟩
      case measure => simp [intOf]; omega
    · have hkn : k = n := by omega
      subst hkn
      go_wp2
      go_ret
      exact ⟨rfl, hbw⟩
theorem sameflag_yes (b : Nat) (p : Option Addr) (c : Nat) (q : Option Addr) (d : Nat) (l : List Wt) (w : World) (h1 : Rd eW w p c l) (h2 : Rd eW w q d l) (n : Nat) (hn : l.length = n) (hn9 : n ≤ 1000) :
    Calls Try.prog 32 #[.agg #[.int .u32 (b : Int), .slice p n c], .agg #[.int .u32 (b : Int), .slice q n d]] w fun e w' => e = .returned (.bool true) ∧ Below w.heap.size w w' := by
  have HN : Hid (l.length = n) := hn
  clear hn
  have bW : Below w.heap.size w ((w.alloc (.cells #[.int .u32 (b : Int), .slice p n c] 47)).alloc (.cells #[.int .u32 (b : Int), .slice q n d] 47)) := ((Below.refl _ _).alloc (Nat.le_refl _) _).alloc (by simp) _
  go_enter Try.func32, Try.ntmps32
  go_wp2_with (go_at_call 58; refine (samewaiters_yes _ _ _ _ l _ (h1.below bW) (h2.below bW) n HN.out hn9).mono ?_; rintro e w1 ⟨rfl, b1⟩)
  go_ret
  exact ⟨rfl, bel_call bW (Nat.le_refl _) b1⟩
set_option maxHeartbeats 2000000 in
theorem samebox_yes (p : Option Addr) (c : Nat) (q : Option Addr) (d : Nat) (p2 : Option Addr) (c2 : Nat) (q2 : Option Addr) (d2 : Nat) (L Q : List Int) (w : World) (hL : Rd eI w p c L) (hQ : Rd eI w q d Q) (hL2 : Rd eI w p2 c2 L) (hQ2 : Rd eI w q2 d2 Q) (n m : Nat) (hn : L.length = n) (hm : Q.length = m) (hn9 : n ≤ 1000) (hm9 : m ≤ 1000) :
    Calls Try.prog 31 #[.agg #[.slice p n c, .slice q m d], .agg #[.slice p2 n c2, .slice q2 m d2]] w fun e w' => e = .returned (.bool true) ∧ Below w.heap.size w w' := by
  have HN : Hid (L.length = n) := hn
  have HM : Hid (Q.length = m) := hm
  clear hn hm
  obtain ⟨W, hW⟩ : ∃ W, W = (w.alloc (.cells #[.slice p n c, .slice q m d] 43)).alloc (.cells #[.slice p2 n c2, .slice q2 m d2] 43) := ⟨_, rfl⟩
  have bW : Below w.heap.size w W := by rw [hW]; exact ((Below.refl _ _).alloc (Nat.le_refl _) _).alloc (by simp) _
  have hp0 : Lv W w.heap.size #[.slice p n c, .slice q m d] 43 := by rw [hW]; exact (Lv.new _ _ _).below (bel_self _ _)
  have hr0 : Lv W (w.heap.size + 1) #[.slice p2 n c2, .slice q2 m d2] 43 := by rw [hW]; exact heap_at (by simp)
  go_enter Try.func31, Try.ntmps31
  go_wp2
  rw [← hW]
  clear hW
  go_loopw [5] (fun i wr => ∃ k : Nat, k ≤ n ∧ i = .int .i64 k ∧ Below W.heap.size W wr) (fun i _ => n - (intOf i).toNat)
  case atStart => exact ⟨0, Nat.zero_le _, rfl, Below.refl _ _⟩
  case round =>
    obtain ⟨k, hk, rfl, hbw⟩ := hrel
    have hp := hp0.below hbw
    have hr := hr0.below hbw
    have c0 := hp.c 0 rfl
    have c1 := hp.c 1 rfl
    have e0 := hr.c 0 rfl
    have e1 := hr.c 1 rfl
    have BW := bel_call bW (Nat.le_refl _) hbw
    by_cases hlt : k < n
    · have hkl : k < L.length := by rw [HN.out]; exact hlt
      obtain ⟨b, o, rfl, hb, hc⟩ := (hL.below BW).num k hkl
      obtain ⟨b2, o2, rfl, hb2, hc2⟩ := (hL2.below BW).num k hkl
      generalize L[k] = x at *
      go_wp2
      go_quiet (fail)
      go_wp2
      go_roundw
      case rel => exact ⟨k + 1, by omega, by go_num, bel_draws hbw nq⟩
      case measure => simp [intOf]; omega
    · have hkn : k = n := by omega
      subst hkn
      go_wp2
      obtain ⟨wo, hwo⟩ : ∃ wo : World, wo = wr := ⟨_, rfl⟩
      subst hwo
      clear c0 c1 e0 e1 hp hr
      go_loopw [6] (fun i wr => ∃ k : Nat, k ≤ m ∧ i = .int .i64 k ∧ Below W.heap.size W wr) (fun i _ => m - (intOf i).toNat)
      case atStart => exact ⟨0, Nat.zero_le _, rfl, hbw⟩
      case round =>
        obtain ⟨j, hj, rfl, hbw2⟩ := hrel
        have hp := hp0.below hbw2
        have hr := hr0.below hbw2
        have c0 := hp.c 0 rfl
        have c1 := hp.c 1 rfl
        have e0 := hr.c 0 rfl
        have e1 := hr.c 1 rfl
        have BW2 := bel_call bW (Nat.le_refl _) hbw2
        by_cases hltj : j < m
        · have hkl : j < Q.length := by rw [HM.out]; exact hltj
          obtain ⟨b, o, rfl, hb, hc⟩ := (hQ.below BW2).num j hkl
          obtain ⟨b2, o2, rfl, hb2, hc2⟩ := (hQ2.below BW2).num j hkl
          generalize Q[j] = x at *
          go_wp2
          go_quiet (fail)
          go_wp2
          go_roundw
          case rel => exact ⟨j + 1, by omega, by go_num, bel_draws hbw2 nq⟩
          case measure => simp [intOf]; omega
        · have hjm : j = m := by omega
          subst hjm
          go_wp2
          go_ret
          exact ⟨rfl, BW2⟩

theorem mapTake (l : List Wt) (k : Nat) (h : k < l.length) : (l.take (k + 1)).map (·.1) = (l.take k).map (·.1) ++ [(l[k]).1] := by
  rw [take_next l k h, List.map_append]; rfl
theorem clients_any (b : Nat) (p : Option Addr) (c : Nat) (l : List Wt) (w : World) (h : Rd eW w p c l) (n : Nat) (hn : l.length = n) (hn9 : n ≤ 1000) :
    Calls Try.prog 66 #[.agg #[.int .u32 (b : Int), .slice p n c]] w fun e w' => ∃ (u : Option Addr) (v : Nat), e = .returned (.slice u n v) ∧ Own eI w' w.heap.size 3 u v (l.map (·.1)) ∧ Below w.heap.size w w' := by
  have HN : Hid (l.length = n) := hn
  clear hn
  obtain ⟨W, hW⟩ : ∃ W, W = w.alloc (.cells #[.int .u32 (b : Int), .slice p n c] 47) := ⟨_, rfl⟩
  have bW : Below w.heap.size w W := by rw [hW]; exact bel_self _ _
  have hF0 : Fv W w.heap.size b p n c := by rw [hW]; exact Fv.new _ _ _ _ _
  go_enter Try.func66, Try.ntmps66
  go_wp2
  rw [← hW]
  clear hW
  go_loopw [3, 4] (fun q i wr => ∃ (k : Nat) (u : Option Addr) (v : Nat), k ≤ n ∧ i = .int .i64 k ∧ q = .slice u k v ∧ Own eI wr W.heap.size 3 u v ((l.take k).map (·.1)) ∧ Below W.heap.size W wr) (fun _ i _ => n - (intOf i).toNat)
  case atStart => exact ⟨0, none, 0, Nat.zero_le _, rfl, rfl, own_nil _ _ _, Below.refl _ _⟩
  case round =>
    obtain ⟨k, u, v, hk, rfl, rfl, oU, hbw⟩ := hrel
    have hF := hF0.below hbw
    have c0 := hF.c0
    have c1 := hF.c1
    by_cases hlt : k < n
    · have hkl : k < l.length := by rw [HN.out]; exact hlt
      obtain ⟨bb, o, rfl, hb, hc0, hc1⟩ := (h.below (bel_call bW (Nat.le_refl _) hbw)).wt k hkl
      have hS := mapTake l k hkl
      generalize (l[k]).1 = x at *
      generalize (l[k]).2 = m at *
      have HS : Hid ((l.take (k + 1)).map (·.1) = (l.take k).map (·.1) ++ [x]) := hS
      have HK : Hid (((l.take k).map (·.1)).length = k) := by show _ = _; rw [List.length_map, len_take (by rw [HN.out]; exact hk)]
      clear hS
      generalize (l.take k).map (·.1) = A at *
      go_wp2_with (at_builtin; refine wpList_app tI _ rfl _ _ rfl W.heap.size u v A k HK.out rfl (own_below oU (bel_self _ _)) _ _ [x] 1 rfl rfl (rd_block (heap_alloc_new _ _) 1 rfl rfl) (by omega) (Nat.le_trans hbw.size (bel_self _ _).size) (k + 1) rfl ?_; intro p5 c5 w5 o5 b5 g5)
      go_roundw
      case rel => exact ⟨k + 1, p5, c5, by omega, by go_num, rfl, by rw [HS.out]; exact o5, (hbw.alloc hbw.size _).trans b5⟩
      case measure => simp [intOf]; omega
    · have hkn : k = n := by omega
      subst hkn
      have hl : l.take k = l := by rw [← HN.out, List.take_length]
      rw [hl] at oU
      clear hl
      go_wp2
      go_ret
      exact ⟨_, _, rfl, own_mono oU bW.size, bel_call bW (Nat.le_refl _) hbw⟩
set_option maxHeartbeats 1000000 in
theorem reset_any (b : Nat) (p : Option Addr) (c : Nat) (l : List Wt) (w : World) (h : Rd eW w p c l) (n : Nat) (hn : l.length = n) (hn9 : n ≤ 1000) :
    Calls Try.prog 65 #[.agg #[.int .u32 (b : Int), .slice p n c]] w fun e w' => ∃ (u : Option Addr) (v : Nat), e = .returned (.tuple #[.agg #[.int .u32 0, .slice none 0 0], .slice u n v]) ∧ Own eI w' w.heap.size 3 u v (l.map (·.1)) ∧ Below w.heap.size w w' := by
  obtain ⟨i0, hi0, hz0, hz1, hz2⟩ := info_parts Try.info3
  have HN : Hid (l.length = n) := hn
  clear hn
  obtain ⟨W, hW⟩ : ∃ W, W = (w.alloc (.cells #[.int .u32 (b : Int), .slice p n c] 47)).alloc (.cells #[.int .u32 0, .slice none 0 0] 47) := ⟨_, rfl⟩
  have bW : Below w.heap.size w W := by rw [hW]; exact ((Below.refl _ _).alloc (Nat.le_refl _) _).alloc (by simp) _
  have hr0 : Fv W (w.heap.size + 1) 0 none 0 0 := by rw [hW]; exact heap_at (by simp)
  have hF0 : Fv W w.heap.size b p n c := by rw [hW]; exact (Fv.new _ _ _ _ _).below (bel_self _ _)
  go_enter Try.func65, Try.ntmps65
  go_wp2_with (at_make; rw [← hW]; refine wpList_make_own _ rfl _ _ 24 rfl W.heap.size 3 i0 _ 1 Try.underlying24 hi0 hz0 hz1 _ _ _ n rfl rfl rfl (by rw [hz2]; omega) (by unfold maxLen; omega) (Nat.le_refl _) ?_; intro w1 hown1 hgrow1
               have b1 : Below W.heap.size W w1 := (Below.refl _ _).grown hgrow1 (Nat.le_refl _) (fun k hk => by cases hk)
               have hF1 := hF0.below b1; have c0 := hF1.c0; have c1 := hF1.c1)
  have o1 : Own eI w1 W.heap.size 3 (some ⟨w.heap.size + 1 + 1, 0, none⟩) n [] := by
    have hs : W.heap.size = w.heap.size + 1 + 1 := by rw [hW]; simp
    have h1 := hown1
    rw [hs] at h1 ⊢
    exact h1
  clear hown1 hgrow1 hi0 hz0 hz1 hz2 c0 c1 hF1
  go_loopw [4, 14] (fun q i wr => ∃ (k : Nat) (u : Option Addr) (v : Nat), k ≤ n ∧ i = .int .i64 k ∧ q = .slice u k v ∧ Own eI wr W.heap.size 3 u v ((l.take k).map (·.1)) ∧ Below W.heap.size W wr) (fun _ i _ => n - (intOf i).toNat)
  case atStart => exact ⟨0, _, n, Nat.zero_le _, rfl, rfl, o1, b1⟩
  case round =>
    obtain ⟨k, u, v, hk, rfl, rfl, oU, hbw⟩ := hrel
    by_cases hlt : k < n
    · have hkl : k < l.length := by rw [HN.out]; exact hlt
      obtain ⟨bb, o, rfl, hb, hc0, hc1⟩ := (h.below (bel_call bW (Nat.le_refl _) hbw)).wt k hkl
      have hS := mapTake l k hkl
      generalize (l[k]).1 = x at *
      generalize (l[k]).2 = m at *
      have HS : Hid ((l.take (k + 1)).map (·.1) = (l.take k).map (·.1) ++ [x]) := hS
      have HK : Hid (((l.take k).map (·.1)).length = k) := by show _ = _; rw [List.length_map, len_take (by rw [HN.out]; exact hk)]
      clear hS
      generalize (l.take k).map (·.1) = A at *
      have s1 := bel_self wr (.cells #[.int .i64 x, .int .u32 (m : Int)] 138)
      have s2 := bel_self (wr.alloc (.cells #[.int .i64 x, .int .u32 (m : Int)] 138)) (.cells #[.int .i64 x] 3)
      have rN : Rd eI ((wr.alloc (.cells #[.int .i64 x, .int .u32 (m : Int)] 138)).alloc (.cells #[.int .i64 x] 3)) (some ⟨wr.heap.size + 1, 0, none⟩) 1 [x] := rd_block (heap_at (by simp)) 1 rfl rfl
      go_wp2_with (at_builtin; refine wpList_app tI _ rfl _ _ rfl W.heap.size u v A k HK.out rfl (own_below (own_below oU s1) s2) _ _ [x] 1 rfl rfl rN (by omega) (Nat.le_trans hbw.size (Nat.le_trans s1.size s2.size)) (k + 1) rfl ?_; intro p5 c5 w5 o5 b5 g5)
      go_roundw
      case rel => exact ⟨k + 1, p5, c5, by omega, by go_num, rfl, by rw [HS.out]; exact o5, (bel_call (bel_call hbw (Nat.le_refl _) s1) (Nat.le_refl _) s2).trans b5⟩
      case measure => simp [intOf]; omega
    · have hkn : k = n := by omega
      subst hkn
      have hl : l.take k = l := by rw [← HN.out, List.take_length]
      rw [hl] at oU
      clear hl
      have hr1 := hr0.below hbw
      have x0 := hr1.c0
      have x1 := hr1.c1
      have v0 := hr1.f0
      have v1 := hr1.f1
      go_wp2
      have hr9 : Fv ((wr.setCell ⟨w.heap.size + 1, 0, none⟩ (.int .u32 0)).setCell ⟨w.heap.size + 1, 1, none⟩ (.slice none 0 0)) (w.heap.size + 1) 0 none 0 0 := by
        have := (Lv.set hr1 0 (.int .u32 0)).set 1 (.slice none 0 0)
        simpa [Fv] using this
      have e9 := loadFlag (x := .int .u32 0) (y := .slice none 0 0) hr9
      have fU := Far.type oU hr1 (by decide)
      refine bodyPost_ret (v := .tuple #[.agg #[.int .u32 0, .slice none 0 0], .slice u k v]) (by simp [results, Try.results65, asAddr, e9]) rfl ⟨u, v, rfl, own_setFar (own_setFar (own_mono oU bW.size) fU 0 _) fU 1 _, ?_⟩
      refine Below.setCell (Below.setCell (bel_call bW (Nat.le_refl _) hbw) ?_ _) ?_ _
      · exact Nat.le_succ _
      · exact Nat.le_succ _
end Go.Proofs.Ytcncpefdjgnhdaa
