/-
  Two boxes with the same in them held against each other; Reset; deeds with letters for lengths and answers; that the package does something.
-/
import Derived.Test.YtfghondhonflaaaTake
import Derived.Test.YtfghondhonflaaaRPost
import Derived.Test.YtfghondhonflaaaRTake
namespace Go.Proofs.Ytfghondhonflaaa
open Go.ChangeShapes Go.WideShapes Go.ChangeAt Go.RowKit
attribute [local go_sem ↓] Go.wp_at_zero Go.wp_at_succ

set_option maxHeartbeats 2000000 in
theorem same_yes (p : Option Addr) (c : Nat) (q : Option Addr) (d : Nat) (p2 : Option Addr) (c2 : Nat) (q2 : Option Addr) (d2 : Nat) (L Q : List Int) (w : World) (hL : Rd eI w p c L) (hQ : Rd eI w q d Q) (hL2 : Rd eI w p2 c2 L) (hQ2 : Rd eI w q2 d2 Q) (n m : Nat) (hn : L.length = n) (hm : Q.length = m) (hn9 : n ≤ 1000) (hm9 : m ≤ 1000) :
    Calls Try.prog 10 #[.agg #[.slice p n c, .slice q m d], .agg #[.slice p2 n c2, .slice q2 m d2]] w fun e w' => e = .returned (.bool true) ∧ Below w.heap.size w w' := by
  have HN : Hid (L.length = n) := hn
  have HM : Hid (Q.length = m) := hm
  clear hn hm
  obtain ⟨W, hW⟩ : ∃ W, W = (w.alloc (.cells #[.slice p n c, .slice q m d] 25)).alloc (.cells #[.slice p2 n c2, .slice q2 m d2] 25) := ⟨_, rfl⟩
  have bW : Below w.heap.size w W := by rw [hW]; exact ((Below.refl _ _).alloc (Nat.le_refl _) _).alloc (by simp) _
  have hp0 : Lv W w.heap.size #[.slice p n c, .slice q m d] 25 := by rw [hW]; exact (Lv.new _ _ _).below (bel_self _ _)
  have hr0 : Lv W (w.heap.size + 1) #[.slice p2 n c2, .slice q2 m d2] 25 := by rw [hW]; exact heap_at (by simp)
  go_enter Try.func10, Try.ntmps10
  go_wp2
  rw [← hW]
  clear hW
  go_loopw [5] (fun i wr => ∃ k : Nat, k ≤ n ∧ i = .int .i64 k ∧ Below W.heap.size W wr) (fun i _ => n - (intOf i).toNat)
  case atStart => exact ⟨0, Nat.zero_le _, rfl, Below.refl _ _⟩
  case round =>
    obtain ⟨k, hk, rfl, hbw⟩ := hrel
    have hp := hp0.below hbw
    have hr := hr0.below hbw
    have c0 := hp.c 0 rfl
    have c1 := hp.c 1 rfl
    have e0 := hr.c 0 rfl
    have e1 := hr.c 1 rfl
    have BW := bel_call bW (Nat.le_refl _) hbw
    by_cases hlt : k < n
    · have hkl : k < L.length := by rw [HN.out]; exact hlt
      obtain ⟨b, o, rfl, hb, hc⟩ := (hL.below BW).num k hkl
      obtain ⟨b2, o2, rfl, hb2, hc2⟩ := (hL2.below BW).num k hkl
      generalize L[k] = x at *
      go_wp2
      go_quiet (fail)
      go_wp2
      go_roundw
      case rel => exact ⟨k + 1, by omega, by go_num, bel_draws hbw nq⟩
      case measure => simp [intOf]; omega
    · have hkn : k = n := by omega
      subst hkn
      go_wp2
      obtain ⟨wo, hwo⟩ : ∃ wo : World, wo = wr := ⟨_, rfl⟩
      subst hwo
      clear c0 c1 e0 e1 hp hr
      go_loopw [6] (fun i wr => ∃ k : Nat, k ≤ m ∧ i = .int .i64 k ∧ Below W.heap.size W wr) (fun i _ => m - (intOf i).toNat)
      case atStart => exact ⟨0, Nat.zero_le _, rfl, hbw⟩
      case round =>
        obtain ⟨j, hj, rfl, hbw2⟩ := hrel
        have hp := hp0.below hbw2
        have hr := hr0.below hbw2
        have c0 := hp.c 0 rfl
        have c1 := hp.c 1 rfl
        have e0 := hr.c 0 rfl
        have e1 := hr.c 1 rfl
        have BW2 := bel_call bW (Nat.le_refl _) hbw2
        by_cases hltj : j < m
        · have hkl : j < Q.length := by rw [HM.out]; exact hltj
          obtain ⟨b, o, rfl, hb, hc⟩ := (hQ.below BW2).num j hkl
          obtain ⟨b2, o2, rfl, hb2, hc2⟩ := (hQ2.below BW2).num j hkl
          generalize Q[j] = x at *
          go_wp2
          go_quiet (fail)
          go_wp2
          go_roundw
          case rel => exact ⟨j + 1, by omega, by go_num, bel_draws hbw2 nq⟩
          case measure => simp [intOf]; omega
        · have hjm : j = m := by omega
          subst hjm
          go_wp2
          go_ret
          exact ⟨rfl, BW2⟩
theorem reset_any (p : Option Addr) (c : Nat) (q : Option Addr) (d : Nat) (Q : List Int) (n : Nat) (w : World) (hQ : Rd eI w q d Q) (m : Nat) (hm : Q.length = m) (hm9 : m ≤ 1000) :
    Calls Try.prog 13 #[.agg #[.slice p n c, .slice q m d]] w fun e w' => ∃ (q1 : Option Addr) (d1 : Nat), e = .returned (.tuple #[.agg #[.slice none 0 0, .slice none 0 0], .slice q1 m d1]) ∧ Own eI w' w.heap.size 3 q1 d1 Q ∧ Below w.heap.size w w' := by
  have HM : Hid (Q.length = m) := hm
  clear hm
  obtain ⟨W, hW⟩ : ∃ W, W = (w.alloc (.cells #[.slice p n c, .slice q m d] 25)).alloc (.cells #[.slice none 0 0, .slice none 0 0] 25) := ⟨_, rfl⟩
  have bW : Below w.heap.size w W := by rw [hW]; exact ((Below.refl _ _).alloc (Nat.le_refl _) _).alloc (by simp) _
  have hr0 : Lv W (w.heap.size + 1) #[.slice none 0 0, .slice none 0 0] 25 := by rw [hW]; exact heap_at (by simp)
  go_enter Try.func13, Try.ntmps13
  go_wp2_with (go_at_call 19; rw [← hW]; refine (cloneI _ _ _ _ _ (hQ.below bW) HM.out hm9).mono ?_; rintro e w1 ⟨q1, d1, rfl, o1, b1⟩
               have hr1 := hr0.below b1
               have x0 := hr1.c 0 rfl; have x1 := hr1.c 1 rfl; have v0 := hr1.fz 0; have v1 := hr1.fz 1)
  have hr9 := (hr1.set 0 (.slice none 0 0)).set 1 (.slice none 0 0)
  have e9 := loadBox (w := (w1.setCell ⟨w.heap.size + 1, 0, none⟩ (.slice none 0 0)).setCell ⟨w.heap.size + 1, 1, none⟩ (.slice none 0 0)) hr9
  have fq : Far q1 (w.heap.size + 1) := Far.type o1 hr1 (by decide)
  refine bodyPost_ret (v := .tuple #[.agg #[.slice none 0 0, .slice none 0 0], .slice q1 m d1]) (by simp [results, Try.results13, asAddr, e9]) rfl ⟨_, _, rfl, own_setFar (own_setFar (own_mono o1 bW.size) fq 0 _) fq 1 _, ?_⟩
  refine Below.setCell (Below.setCell (bel_call bW (Nat.le_refl _) b1) ?_ _) ?_ _
  · exact Nat.le_succ _
  · exact Nat.le_succ _

/-- A box that is read: letters, who waits. -/
structure Bx (w : World) (p : Option Addr) (c n : Nat) (L : List Int) (q : Option Addr) (d m : Nat) (Q : List Int) : Prop where
  rl : Rd eI w p c L
  rq : Rd eI w q d Q
  ln : L.length = n
  lm : Q.length = m
  n9 : n ≤ 1000
  m9 : m ≤ 1000
theorem Bx.below {w w' : World} {p : Option Addr} {c n : Nat} {L : List Int} {q : Option Addr} {d m : Nat} {Q : List Int} (h : Bx w p c n L q d m Q) (hb : Below w.heap.size w w') : Bx w' p c n L q d m Q := ⟨h.rl.below hb, h.rq.below hb, h.ln, h.lm, h.n9, h.m9⟩
theorem Bx.nil (w : World) : Bx w none 0 0 [] none 0 0 [] := ⟨Rd.nil _, Rd.nil _, rfl, rfl, by decide, by decide⟩
theorem Bx.far {w : World} {p : Option Addr} {c n : Nat} {L : List Int} {q : Option Addr} {d m : Nat} {Q : List Int} (h : Bx w p c n L q d m Q) {g : Nat} (hp : Far p g) (hq : Far q g) (j : Nat) (v : Value) : Bx (w.setCell ⟨g, j, none⟩ v) p c n L q d m Q := ⟨rd_setFar h.rl hp j v, rd_setFar h.rq hq j v, h.ln, h.lm, h.n9, h.m9⟩
section
variable {w : World} {p : Option Addr} {c n : Nat} {L : List Int} {q : Option Addr} {d m : Nat} {Q : List Int}
theorem post_n (h : Bx w p c n L q d m Q) (v C : Int) (hC : postC Q = C) (B : Bool) (hB : postB L Q = B) (L1 Q1 : List Int) (hL1 : postL L Q v = L1) (hQ1 : postQ Q = Q1) (n1 m1 : Nat) (hn1 : L1.length = n1) (hm1 : Q1.length = m1) (hn9 : n1 ≤ 1000) (hm9 : m1 ≤ 1000) :
    Calls Try.prog 8 #[.agg #[.slice p n c, .slice q m d], .int .i64 v] w fun e w' => ∃ (p1 : Option Addr) (c1 : Nat) (q1 : Option Addr) (d1 : Nat), e = .returned (.tuple #[.agg #[.slice p1 n1 c1, .slice q1 m1 d1], .int .i64 C, .bool B]) ∧ Bx w' p1 c1 n1 L1 q1 d1 m1 Q1 ∧ Nw w.heap.size p1 ∧ Nw w.heap.size q1 ∧ Below w.heap.size w w' := by
  subst hC hB hL1 hQ1 hn1 hm1
  refine (post_any p c L q d Q v w h.rl h.rq n m h.ln h.lm h.n9 h.m9).mono ?_
  rintro e w' ⟨p1, c1, q1, d1, rfl, h1, h2, na, nb, hb⟩
  exact ⟨p1, c1, q1, d1, rfl, ⟨h1, h2, rfl, rfl, hn9, hm9⟩, na, nb, hb⟩
theorem post_c (h : Bx w p c n L q d m Q) (v C : Int) (hC : postC Q = C) (B : Bool) (hB : postB L Q = B) (L1 Q1 : List Int) (hL1 : postL L Q v = L1) (hQ1 : postQ Q = Q1) (n1 m1 : Nat) (hn1 : L1.length = n1) (hm1 : Q1.length = m1) (hn9 : n1 ≤ 1000) (hm9 : m1 ≤ 1000) :
    Calls Try.prog 8 #[.agg #[.slice p n c, .slice q m d], .int .i64 v] w fun e w' => ∃ (p1 : Option Addr) (c1 : Nat) (q1 : Option Addr) (d1 : Nat), e = .returned (.tuple #[.agg #[.slice p1 n1 c1, .slice q1 m1 d1], .int .i64 C, .bool B]) ∧ Bx w' p1 c1 n1 L1 q1 d1 m1 Q1 ∧ Below w.heap.size w w' := by
  refine (post_n h v C hC B hB L1 Q1 hL1 hQ1 n1 m1 hn1 hm1 hn9 hm9).mono ?_
  rintro e w' ⟨p1, c1, q1, d1, rfl, h1, -, -, hb⟩
  exact ⟨p1, c1, q1, d1, rfl, h1, hb⟩
theorem rpost_c (h : Bx w p c n L q d m Q) (v C : Int) (hC : postC Q = C) (B : Bool) (hB : postB L Q = B) (L1 Q1 : List Int) (hL1 : postL L Q v = L1) (hQ1 : postQ Q = Q1) (n1 m1 : Nat) (hn1 : L1.length = n1) (hm1 : Q1.length = m1) (hn9 : n1 ≤ 1000) (hm9 : m1 ≤ 1000) :
    Calls Try.prog 9 #[.agg #[.slice p n c, .slice q m d], .int .i64 v] w fun e w' => ∃ (p1 : Option Addr) (c1 : Nat) (q1 : Option Addr) (d1 : Nat), e = .returned (.tuple #[.agg #[.slice p1 n1 c1, .slice q1 m1 d1], .int .i64 C, .bool B]) ∧ Bx w' p1 c1 n1 L1 q1 d1 m1 Q1 ∧ Below w.heap.size w w' := by
  subst hC hB hL1 hQ1 hn1 hm1
  refine (rpost_any p c L q d Q v w h.rl h.rq n m h.ln h.lm h.n9 h.m9).mono ?_
  rintro e w' ⟨p1, c1, q1, d1, rfl, h1, h2, hb⟩
  exact ⟨p1, c1, q1, d1, rfl, ⟨h1, h2, rfl, rfl, hn9, hm9⟩, hb⟩
theorem take_n (h : Bx w p c n L q d m Q) (v V : Int) (hV : takeV L v = V) (G : Bool) (hG : takeGot L v = G) (B : Bool) (hB : takeOk L Q v = B) (L1 Q1 : List Int) (hL1 : takeL L v = L1) (hQ1 : takeQ L Q v = Q1) (n1 m1 : Nat) (hn1 : L1.length = n1) (hm1 : Q1.length = m1) (hn9 : n1 ≤ 1000) (hm9 : m1 ≤ 1000) :
    Calls Try.prog 11 #[.agg #[.slice p n c, .slice q m d], .int .i64 v] w fun e w' => ∃ (p1 : Option Addr) (c1 : Nat) (q1 : Option Addr) (d1 : Nat), e = .returned (.tuple #[.agg #[.slice p1 n1 c1, .slice q1 m1 d1], .int .i64 V, .bool G, .bool B]) ∧ Bx w' p1 c1 n1 L1 q1 d1 m1 Q1 ∧ Nw w.heap.size p1 ∧ Nw w.heap.size q1 ∧ Below w.heap.size w w' := by
  subst hV hG hB hL1 hQ1 hn1 hm1
  refine (take_any p c L q d Q v w h.rl h.rq n m h.ln h.lm h.n9 h.m9).mono ?_
  rintro e w' ⟨p1, c1, q1, d1, rfl, h1, h2, na, nb, hb⟩
  exact ⟨p1, c1, q1, d1, rfl, ⟨h1, h2, rfl, rfl, hn9, hm9⟩, na, nb, hb⟩
theorem take_c (h : Bx w p c n L q d m Q) (v V : Int) (hV : takeV L v = V) (G : Bool) (hG : takeGot L v = G) (B : Bool) (hB : takeOk L Q v = B) (L1 Q1 : List Int) (hL1 : takeL L v = L1) (hQ1 : takeQ L Q v = Q1) (n1 m1 : Nat) (hn1 : L1.length = n1) (hm1 : Q1.length = m1) (hn9 : n1 ≤ 1000) (hm9 : m1 ≤ 1000) :
    Calls Try.prog 11 #[.agg #[.slice p n c, .slice q m d], .int .i64 v] w fun e w' => ∃ (p1 : Option Addr) (c1 : Nat) (q1 : Option Addr) (d1 : Nat), e = .returned (.tuple #[.agg #[.slice p1 n1 c1, .slice q1 m1 d1], .int .i64 V, .bool G, .bool B]) ∧ Bx w' p1 c1 n1 L1 q1 d1 m1 Q1 ∧ Below w.heap.size w w' := by
  refine (take_n h v V hV G hG B hB L1 Q1 hL1 hQ1 n1 m1 hn1 hm1 hn9 hm9).mono ?_
  rintro e w' ⟨p1, c1, q1, d1, rfl, h1, -, -, hb⟩
  exact ⟨p1, c1, q1, d1, rfl, h1, hb⟩
theorem rtake_c (h : Bx w p c n L q d m Q) (v V : Int) (hV : takeV L v = V) (G : Bool) (hG : takeGot L v = G) (B : Bool) (hB : takeOk L Q v = B) (L1 Q1 : List Int) (hL1 : takeL L v = L1) (hQ1 : takeQ L Q v = Q1) (n1 m1 : Nat) (hn1 : L1.length = n1) (hm1 : Q1.length = m1) (hn9 : n1 ≤ 1000) (hm9 : m1 ≤ 1000) :
    Calls Try.prog 12 #[.agg #[.slice p n c, .slice q m d], .int .i64 v] w fun e w' => ∃ (p1 : Option Addr) (c1 : Nat) (q1 : Option Addr) (d1 : Nat), e = .returned (.tuple #[.agg #[.slice p1 n1 c1, .slice q1 m1 d1], .int .i64 V, .bool G, .bool B]) ∧ Bx w' p1 c1 n1 L1 q1 d1 m1 Q1 ∧ Below w.heap.size w w' := by
  subst hV hG hB hL1 hQ1 hn1 hm1
  refine (rtake_any p c L q d Q v w h.rl h.rq n m h.ln h.lm h.n9 h.m9).mono ?_
  rintro e w' ⟨p1, c1, q1, d1, rfl, h1, h2, hb⟩
  exact ⟨p1, c1, q1, d1, rfl, ⟨h1, h2, rfl, rfl, hn9, hm9⟩, hb⟩
theorem same_c {p2 : Option Addr} {c2 : Nat} {q2 : Option Addr} {d2 : Nat} (h : Bx w p c n L q d m Q) (h2 : Bx w p2 c2 n L q2 d2 m Q) :
    Calls Try.prog 10 #[.agg #[.slice p n c, .slice q m d], .agg #[.slice p2 n c2, .slice q2 m d2]] w fun e w' => e = .returned (.bool true) ∧ Below w.heap.size w w' :=
  same_yes p c q d p2 c2 q2 d2 L Q w h.rl h.rq h2.rl h2.rq n m h.ln h.lm h.n9 h.m9
theorem reset_c (h : Bx w p c n L q d m Q) :
    Calls Try.prog 13 #[.agg #[.slice p n c, .slice q m d]] w fun e w' => ∃ (q1 : Option Addr) (d1 : Nat), e = .returned (.tuple #[.agg #[.slice none 0 0, .slice none 0 0], .slice q1 m d1]) ∧ Own eI w' w.heap.size 3 q1 d1 Q ∧ Below w.heap.size w w' :=
  reset_any p c q d Q n w h.rq m h.lm h.m9
end
/-- A box's variable. -/
def BV (w : World) (g : Nat) (p : Option Addr) (c n : Nat) (q : Option Addr) (d m : Nat) : Prop := Lv w g #[.slice p n c, .slice q m d] 25
theorem BV.c0 {w : World} {g : Nat} {p : Option Addr} {c n : Nat} {q : Option Addr} {d m : Nat} (h : BV w g p c n q d m) : w.cell? ⟨g, 0, none⟩ = some (.slice p n c) := Lv.c h 0 rfl
theorem BV.c1 {w : World} {g : Nat} {p : Option Addr} {c n : Nat} {q : Option Addr} {d m : Nat} (h : BV w g p c n q d m) : w.cell? ⟨g, 1, none⟩ = some (.slice q m d) := Lv.c h 1 rfl
theorem BV.new (w : World) (p : Option Addr) (c n : Nat) (q : Option Addr) (d m : Nat) : BV (w.alloc (.cells #[.slice p n c, .slice q m d] 25)) w.heap.size p c n q d m := Lv.new _ _ _
theorem BV.below {w w' : World} {g : Nat} {p : Option Addr} {c n : Nat} {q : Option Addr} {d m : Nat} (h : BV w g p c n q d m) (hb : Below w.heap.size w w') : BV w' g p c n q d m := Lv.below h hb

theorem begun_any (w : World) : Calls Try.prog 7 #[] w fun e w' => e = .returned (.bool true) ∧ Below w.heap.size w w' := by
  have B0 := Below.refl w.heap.size w
  go_enter Try.func7, Try.ntmps7
  go_wp2_with (first
    | (go_at_call 8; (with_reducible (refine (post_c (Bx.nil _) 7 0 ?h1 true ?h2 [7] [] ?h3 ?h4 1 0 rfl rfl (by decide) (by decide)).mono ?_)); (case h1 => rfl); (case h2 => rfl); (case h3 => rfl); (case h4 => rfl); (rintro e w1 ⟨p1, c1, q1, d1, rfl, x1, b1⟩; have B1 := bel_call B0 (Nat.le_refl _) b1; have s1 := bel_self w1 (.cells #[.slice p1 1 c1, .slice q1 0 d1] 25); have X1 := x1.below s1; have B1 := bel_call B1 (Nat.le_refl _) s1))
    | (go_at_call 11; (with_reducible (refine (take_c X1 1 7 ?h1 true ?h2 true ?h5 [] [] ?h3 ?h4 0 0 rfl rfl (by decide) (by decide)).mono ?_)); (case h1 => rfl); (case h2 => rfl); (case h5 => rfl); (case h3 => rfl); (case h4 => rfl); (rintro e w2 ⟨p2, c2, q2, d2, rfl, x2, b2⟩; have B2 := bel_call B1 (Nat.le_refl _) b2; have s2 := bel_self w2 (.cells #[.slice p2 0 c2, .slice q2 0 d2] 25); have X2 := x2.below s2; have B2 := bel_call B2 (Nat.le_refl _) s2))
    | (go_at_call 11; (with_reducible (refine (take_c X2 1 0 ?h1 false ?h2 true ?h5 [] [1] ?h3 ?h4 0 1 rfl rfl (by decide) (by decide)).mono ?_)); (case h1 => rfl); (case h2 => rfl); (case h5 => rfl); (case h3 => rfl); (case h4 => rfl); (rintro e w3 ⟨p3, c3, q3, d3, rfl, x3, b3⟩; have B3 := bel_call B2 (Nat.le_refl _) b3; have s3 := bel_self w3 (.cells #[.slice p3 0 c3, .slice q3 1 d3] 25); have X3 := x3.below s3; have B3 := bel_call B3 (Nat.le_refl _) s3; have v3 := BV.new w3 p3 c3 0 q3 d3 1))
    | (go_at_call 8; (with_reducible (refine (post_c X3 8 1 ?h1 true ?h2 [] [] ?h3 ?h4 0 0 rfl rfl (by decide) (by decide)).mono ?_)); (case h1 => rfl); (case h2 => rfl); (case h3 => rfl); (case h4 => rfl); (rintro e w4 ⟨p4, c4, q4, d4, rfl, x4, b4⟩; have B4 := bel_call B3 (Nat.le_refl _) b4; have s4 := bel_self w4 (.cells #[.slice p4 0 c4, .slice q4 0 d4] 25); have X4 := (X3.below b4).below s4; have B4 := bel_call B4 (Nat.le_refl _) s4; have v4 := v3.below b4; have z4 : w3.heap.size < w4.heap.size := Lv.lt v4; have e0 := v4.c0; have e1 := v4.c1; have v5 := BV.new w4 p4 c4 0 q4 d4 0))
    | (go_at_call 13; (with_reducible (refine (reset_c X4).mono ?_)); (rintro e w5 ⟨q5, d5, rfl, o5, b5⟩; have B5 := bel_call B4 (Nat.le_refl _) b5; have v6 := v5.below b5; have z6 : w4.heap.size < w5.heap.size := Lv.lt v6; have f0 := v6.c0; have f1 := v6.c1)))
  go_ret
  exact ⟨rfl, B5.alloc B5.size _⟩
end Go.Proofs.Ytfghondhonflaaa
