/-
  What turned, copied, begun, waiting, there, most of package obj and the same of the document hand back.
-/
import Derived.Test.YtcncpefdjgnhdaaSmall
namespace Go.Proofs.Ytcncpefdjgnhdaa
open Go.ChangeShapes Go.WideShapes Go.ChangeAt Go.RowKit
attribute [local go_sem ↓] Go.wp_at_zero Go.wp_at_succ

set_option maxHeartbeats 1000000 in
theorem isturned_any (x : Tc) (t : Th) (w : World) (ho : Ok w x t) (B : Bool) (hB : turnedT t = B) :
    Calls Try.prog 44 #[.agg #[.int .i64 x.k, .int .i64 x.a, .int .i64 x.g, .int .i64 x.c, .int .i64 x.h, .slice x.lp x.ln x.lc, .slice x.wp x.wn x.wc, .int .u32 (x.b : Int), .slice x.fp x.fn x.fc, .int .u32 (x.s : Int)]] w fun e w' => e = .returned (.bool B) ∧ Below w.heap.size w w' := by
  have HB : Hid ((!decide ((x.s : Int) = (sealOf t : Int))) = B) := by
    show _ = _
    rw [← hB, ho.s]
    unfold turnedT
    simp
    omega
  have HB : Hid (((x.s : Int) != (sealOf t : Int)) = B) := by show _ = _; rw [← HB.out]; rfl
  clear hB
  obtain ⟨W, hW⟩ : ∃ W, W = w.alloc (.cells #[.int .i64 x.k, .int .i64 x.a, .int .i64 x.g, .int .i64 x.c, .int .i64 x.h, .slice x.lp x.ln x.lc, .slice x.wp x.wn x.wc, .int .u32 (x.b : Int), .slice x.fp x.fn x.fc, .int .u32 (x.s : Int)] 58) := ⟨_, rfl⟩
  have bW : Below w.heap.size w W := by rw [hW]; exact bel_self _ _
  have hV : Vt W w.heap.size x 58 := by rw [hW]; exact Vt.new _ _ _
  go_enter Try.func44, Try.ntmps44
  go_wp2
  rw [← hW]
  clear hW
  refine wp_region_held_drew (S := fun w' => Below W.heap.size W w') (by kernel_rfl) (Below.refl _ _).drew (fun hHeld => ?_)
  refine wpAnyH_take (i := 0) (oi := _) (v := ?_) rfl (by kernel_rfl) (by kernel_rfl) (by kernel_rfl) (fun _ _ _ h => h) (Or.inl ⟨by rfl, ?_⟩) hHeld ?_
  rotate_left
  · intro w' hSw
    (go_simp <;> with_reducible rfl)
  try simp only [Act.put, List.getElem_toArray, List.getElem_cons_zero, List.setIfInBounds_toArray, List.set_cons_zero, List.set_cons_succ]
  refine wpAnyH_take (i := 1) (oi := _) (v := ?_) rfl (by kernel_rfl) (by kernel_rfl) (by kernel_rfl) (fun _ _ _ h => h) (Or.inl ⟨by rfl, ?_⟩) hHeld ?_
  rotate_left
  · intro w' hSw
    obtain ⟨d0, d1, d2, d3, d4, d5, d6, d7, d8, d9⟩ := (hV.below hSw).at
    (go_simp <;> with_reducible rfl)
  try simp only [Act.put, List.getElem_toArray, List.getElem_cons_succ, List.getElem_cons_zero, List.setIfInBounds_toArray, List.set_cons_zero, List.set_cons_succ]
  refine wpAnyH_take (i := 2) (oi := _) (v := ?_) rfl (by kernel_rfl) (by kernel_rfl) (by kernel_rfl) (fun _ _ _ h => h) (Or.inl ⟨by rfl, ?_⟩) hHeld ?_
  rotate_left
  · intro w' hSw
    obtain ⟨d0, d1, d2, d3, d4, d5, d6, d7, d8, d9⟩ := (hV.below hSw).at
    (go_simp <;> with_reducible rfl)
  try simp only [Act.put, List.getElem_toArray, List.getElem_cons_succ, List.getElem_cons_zero, List.setIfInBounds_toArray, List.set_cons_zero, List.set_cons_succ]
  refine wpAnyH_ready (rs := [3]) (by kernel_rfl) (by simp) ?_
  refine AllReadyH.cons (o := _) rfl (fun K hK => ?_) AllReadyH.nil
  go_simp
  go_at_call 68; refine (sum_any x t _ (ho.below (bW.trans (hHeld.mono bW.size))) _ rfl).mono ?_; rintro e w1 ⟨rfl, b1'⟩; have b1 : Below W.heap.size W w1 := hHeld.trans b1'
  refine hK.out _ _ b1 (fun _ => ?_)
  refine wpAnyH_weaken (S' := fun w' => Below w1.heap.size w1 w') (fun w' h => bel_call b1 (Nat.le_refl _) h) _ _ _ _ ?_
  clear hHeld hK K
  have hHeld : Below w1.heap.size w1 w1 := Below.refl _ _
  try simp only [Act.put, List.getElem_toArray, List.getElem_cons_succ, List.getElem_cons_zero, List.setIfInBounds_toArray, List.set_cons_zero, List.set_cons_succ]
  refine wpAnyH_take (i := 4) (oi := _) (v := ?_) rfl (by kernel_rfl) (by kernel_rfl) (by kernel_rfl) (fun _ _ _ h => h) (Or.inl ⟨by rfl, ?_⟩) hHeld ?_
  rotate_left
  · intro w' hSw
    (go_simp <;> with_reducible rfl)
  try simp only [Act.put, List.getElem_toArray, List.getElem_cons_succ, List.getElem_cons_zero, List.setIfInBounds_toArray, List.set_cons_zero, List.set_cons_succ]
  refine wpAnyH_take (i := 5) (oi := _) (v := ?_) rfl (by kernel_rfl) (by kernel_rfl) (by kernel_rfl) (fun _ _ _ h => h) (Or.inl ⟨by rfl, ?_⟩) hHeld ?_
  rotate_left
  · intro w' hSw
    (go_simp <;> with_reducible rfl)
  try simp only [Act.put, List.getElem_toArray, List.getElem_cons_succ, List.getElem_cons_zero, List.setIfInBounds_toArray, List.set_cons_zero, List.set_cons_succ]
  refine wpAnyH_done (by kernel_rfl) ?_ _
  go_wp2
  go_ret
  exact ⟨by first | (rw [HB.out]; done) | (rw [HB.out]; rfl), bel_call bW (Nat.le_refl _) b1⟩
theorem loadBox {w : World} {g : Nat} {a b : Value} (h : Lv w g #[a, b] 43) : (loadVar 43 ⟨g, 0, none⟩).run Try.prog w = .ok (.agg #[a, b]) w := by
  have c0 := h.c 0 rfl
  have c1 := h.c 1 rfl
  simp [go_sem, c0, c1]
theorem boxreset_any (p : Option Addr) (c : Nat) (q : Option Addr) (d : Nat) (Q : List Int) (n : Nat) (w : World) (hQ : Rd eI w q d Q) (m : Nat) (hm : Q.length = m) (hm9 : m ≤ 1000) :
    Calls Try.prog 64 #[.agg #[.slice p n c, .slice q m d]] w fun e w' => ∃ (q1 : Option Addr) (d1 : Nat), e = .returned (.tuple #[.agg #[.slice none 0 0, .slice none 0 0], .slice q1 m d1]) ∧ Own eI w' w.heap.size 3 q1 d1 Q ∧ Below w.heap.size w w' := by
  have HM : Hid (Q.length = m) := hm
  clear hm
  obtain ⟨W, hW⟩ : ∃ W, W = (w.alloc (.cells #[.slice p n c, .slice q m d] 43)).alloc (.cells #[.slice none 0 0, .slice none 0 0] 43) := ⟨_, rfl⟩
  have bW : Below w.heap.size w W := by rw [hW]; exact ((Below.refl _ _).alloc (Nat.le_refl _) _).alloc (by simp) _
  have hr0 : Lv W (w.heap.size + 1) #[.slice none 0 0, .slice none 0 0] 43 := by rw [hW]; exact heap_at (by simp)
  go_enter Try.func64, Try.ntmps64
  go_wp2_with (go_at_call 59; rw [← hW]; refine (cloneI _ _ _ _ _ (hQ.below bW) HM.out hm9).mono ?_; rintro e w1 ⟨q1, d1, rfl, o1, b1⟩
               have hr1 := hr0.below b1
               have x0 := hr1.c 0 rfl; have x1 := hr1.c 1 rfl; have v0 := hr1.fz 0; have v1 := hr1.fz 1)
  have hr9 := (hr1.set 0 (.slice none 0 0)).set 1 (.slice none 0 0)
  have e9 := loadBox (w := (w1.setCell ⟨w.heap.size + 1, 0, none⟩ (.slice none 0 0)).setCell ⟨w.heap.size + 1, 1, none⟩ (.slice none 0 0)) hr9
  have fq : Far q1 (w.heap.size + 1) := Far.type o1 hr1 (by decide)
  refine bodyPost_ret (v := .tuple #[.agg #[.slice none 0 0, .slice none 0 0], .slice q1 m d1]) (by simp [results, Try.results64, asAddr, e9]) rfl ⟨_, _, rfl, own_setFar (own_setFar (own_mono o1 bW.size) fq 0 _) fq 1 _, ?_⟩
  refine Below.setCell (Below.setCell (bel_call bW (Nat.le_refl _) b1) ?_ _) ?_ _
  · exact Nat.le_succ _
  · exact Nat.le_succ _

theorem most_any (k : Int) (w : World) (m : Nat) (hm : mostN k = m) : Calls Try.prog 51 #[.int .i64 k] w fun e w' => e = .returned (.int .i64 (m : Int)) ∧ Below w.heap.size w w' := by
  subst hm
  by_cases h1 : k = 1
  · subst h1
    go_enter Try.func51, Try.ntmps51
    go_wp2
    go_ret
    exact ⟨rfl, Below.refl _ _⟩
  by_cases h2 : k = 2
  · subst h2
    go_enter Try.func51, Try.ntmps51
    go_wp2
    go_ret
    exact ⟨rfl, Below.refl _ _⟩
  by_cases h3 : k = 3
  · subst h3
    go_enter Try.func51, Try.ntmps51
    go_wp2
    go_ret
    exact ⟨rfl, Below.refl _ _⟩
  have e : mostN k = 0 := by unfold mostN; rw [if_neg]; omega
  have d1 : decide (k = 1) = false := by simpa using h1
  have d2 : decide (k = 2) = false := by simpa using h2
  have d3 : decide (k = 3) = false := by simpa using h3
  have e1 : (k == 1) = false := by simpa using h1
  have e2 : (k == 2) = false := by simpa using h2
  have e3 : (k == 3) = false := by simpa using h3
  rw [e]
  clear e
  go_enter Try.func51, Try.ntmps51
  go_wp2
  go_ret
  exact ⟨rfl, Below.refl _ _⟩
set_option maxHeartbeats 2000000 in
theorem begunT_any (k a g c : Int) (w : World) (S : Nat) (hS : (freshT k a g c).s = S) :
    Calls Try.prog 47 #[.int .i64 k, .agg #[.int .i64 a, .int .i64 g], .int .i64 c] w fun e w' => e = .returned (.agg #[.int .i64 k, .int .i64 a, .int .i64 g, .int .i64 (if k = 1 then c else 0), .int .i64 0, .slice none 0 0, .slice none 0 0, .int .u32 0, .slice none 0 0, .int .u32 (S : Int)]) ∧ Below w.heap.size w w' := by
  by_cases hk : k = 1
  · subst hk
    have hS2 : sealOf ⟨1, a, g, c, 0, [], [], 0, [], 0⟩ = S := by rw [← hS]; rfl
    have hS9 : S < 4294967296 := by rw [← hS2]; exact sealOf_lt _
    clear hS
    obtain ⟨W, hW⟩ : ∃ W, W = ((w.alloc (.cells #[.int .i64 a, .int .i64 g] 38)).alloc (.cells #[.int .i64 0, .int .i64 0, .int .i64 0, .int .i64 0, .int .i64 0, .slice none 0 0, .slice none 0 0, .int .u32 0, .slice none 0 0, .int .u32 0] 58)).alloc (.cells #[.int .i64 1, .int .i64 a, .int .i64 g, .int .i64 c, .int .i64 0, .slice none 0 0, .slice none 0 0, .int .u32 0, .slice none 0 0, .int .u32 0] 58) := ⟨_, rfl⟩
    have bW : Below w.heap.size w W := by rw [hW]; exact (((Below.refl _ _).alloc (Nat.le_refl _) _).alloc (by simp) _).alloc (by simp; omega) _
    have hR : Lv W (w.heap.size + 1) #[.int .i64 0, .int .i64 0, .int .i64 0, .int .i64 0, .int .i64 0, .slice none 0 0, .slice none 0 0, .int .u32 0, .slice none 0 0, .int .u32 0] 58 := by rw [hW]; exact (Lv.below (heap_at (by simp)) (bel_self _ _))
    go_enter Try.func47, Try.ntmps47
    go_wp2_with (first
      | (go_at_call 42; rw [← hW]; refine (sealed_any (⟨1, a, g, c, 0, none, 0, 0, none, 0, 0, 0, none, 0, 0, 0⟩ : Tc) ⟨1, a, g, c, 0, [], [], 0, [], 0⟩ _ (Ok.nil _ _ _ _ _ _ (by decide)) S hS2).mono ?_; rintro e w1 ⟨rfl, b1⟩; have R1 := hR.below b1)
      | (refine wpList_stV (E := eT) rfl 58 (.tmp 6) (.tmp 17) rfl size58 (w.heap.size + 1) _ R1 rfl (⟨1, a, g, c, 0, none, 0, 0, none, 0, 0, 0, none, 0, 0, S⟩ : Tc) rfl rfl ?_; intro w2 L2 k2))
    have e9 := load58 L2
    refine bodyPost_ret (v := .agg #[.int .i64 1, .int .i64 a, .int .i64 g, .int .i64 c, .int .i64 0, .slice none 0 0, .slice none 0 0, .int .u32 0, .slice none 0 0, .int .u32 (S : Int)]) (by simp [results, Try.results47, asAddr, e9]) rfl ⟨by rfl, ?_⟩
    refine bel_kp (bel_call bW (Nat.le_refl _) b1) k2 (Nat.le_succ _) ?_
    have := b1.size
    have := bW.size
    omega
  · have e1 : (k == 1) = false := by simpa using hk
    have e2 : decide (k = 1) = false := by simpa using hk
    have hS2 : sealOf ⟨k, a, g, 0, 0, [], [], 0, [], 0⟩ = S := by rw [← hS]; unfold freshT; rw [if_neg hk]; rfl
    have hS9 : S < 4294967296 := by rw [← hS2]; exact sealOf_lt _
    clear hS
    obtain ⟨W, hW⟩ : ∃ W, W = ((w.alloc (.cells #[.int .i64 a, .int .i64 g] 38)).alloc (.cells #[.int .i64 0, .int .i64 0, .int .i64 0, .int .i64 0, .int .i64 0, .slice none 0 0, .slice none 0 0, .int .u32 0, .slice none 0 0, .int .u32 0] 58)).alloc (.cells #[.int .i64 k, .int .i64 a, .int .i64 g, .int .i64 0, .int .i64 0, .slice none 0 0, .slice none 0 0, .int .u32 0, .slice none 0 0, .int .u32 0] 58) := ⟨_, rfl⟩
    have bW : Below w.heap.size w W := by rw [hW]; exact (((Below.refl _ _).alloc (Nat.le_refl _) _).alloc (by simp) _).alloc (by simp; omega) _
    have hR : Lv W (w.heap.size + 1) #[.int .i64 0, .int .i64 0, .int .i64 0, .int .i64 0, .int .i64 0, .slice none 0 0, .slice none 0 0, .int .u32 0, .slice none 0 0, .int .u32 0] 58 := by rw [hW]; exact (Lv.below (heap_at (by simp)) (bel_self _ _))
    go_enter Try.func47, Try.ntmps47
    go_wp2_with (first
      | (go_at_call 42; rw [← hW]; refine (sealed_any (⟨k, a, g, 0, 0, none, 0, 0, none, 0, 0, 0, none, 0, 0, 0⟩ : Tc) ⟨k, a, g, 0, 0, [], [], 0, [], 0⟩ _ (Ok.nil _ _ _ _ _ _ (by decide)) S hS2).mono ?_; rintro e w1 ⟨rfl, b1⟩; have R1 := hR.below b1)
      | (refine wpList_stV (E := eT) rfl 58 (.tmp 6) (.tmp 17) rfl size58 (w.heap.size + 1) _ R1 rfl (⟨k, a, g, 0, 0, none, 0, 0, none, 0, 0, 0, none, 0, 0, S⟩ : Tc) rfl rfl ?_; intro w2 L2 k2))
    have e9 := load58 L2
    refine bodyPost_ret (v := .agg #[.int .i64 k, .int .i64 a, .int .i64 g, .int .i64 0, .int .i64 0, .slice none 0 0, .slice none 0 0, .int .u32 0, .slice none 0 0, .int .u32 (S : Int)]) (by simp [results, Try.results47, asAddr, e9]) rfl ⟨by rfl, ?_⟩
    refine bel_kp (bel_call bW (Nat.le_refl _) b1) k2 (Nat.le_succ _) ?_
    have := b1.size
    have := bW.size
    omega
/-- A table that is read. -/
structure Tb where
  G : List Int
  I : List Bool
  T : List Th
structure Tr (w : World) (x : Tw) (T : Tb) : Prop where
  G : Rd eI w x.gp x.gc T.G
  I : Rd eB w x.ip x.ic T.I
  R : ∃ xs, Rd eT w x.tp x.tc xs ∧ Ts w xs T.T
  gl : T.G.length = 12
  il : T.I.length = 12
  tl : T.T.length = 12
theorem Tr.below {w w' : World} {x : Tw} {T : Tb} (h : Tr w x T) (hb : Below w.heap.size w w') : Tr w' x T :=
  { h with G := h.G.below hb, I := h.I.below hb, R := by obtain ⟨xs, h1, h2⟩ := h.R; exact ⟨xs, h1.below hb, h2.below hb⟩ }
/-- the thing at k, its cells -/
theorem Tr.thing {w : World} {x : Tw} {T : Tb} (h : Tr w x T) (k : Nat) (hk : k < 12) :
    ∃ b o X, x.tp = some ⟨b, o, none⟩ ∧ b < w.heap.size ∧ At10 w b (o + k * 10) X ∧ Ok w X (T.T.getD k th0) := by
  obtain ⟨xs, h1, h2⟩ := h.R
  have hl : xs.length = 12 := by rw [h2.1, h.tl]
  obtain ⟨b, o, e, hb, hc⟩ := h1.thing k (by omega)
  have hkt : k < T.T.length := by rw [h.tl]; exact hk
  refine ⟨b, o, _, e, hb, hc, ?_⟩
  have := h2.2 k (by omega) hkt
  rwa [show T.T.getD k th0 = T.T[k] by simp [List.getD_eq_getElem?_getD, hkt]]
set_option maxHeartbeats 1000000 in
theorem there_any (x : Tw) (T : Tb) (w : World) (ht : Tr w x T) (p : Int) (B : Bool) (hB : isThere T.T p = B) :
    Calls Try.prog 41 #[.agg #[.slice x.gp 12 x.gc, .slice x.ip 12 x.ic, .slice x.tp 12 x.tc], .int .i64 p] w fun e w' => e = .returned (.bool B) ∧ Below w.heap.size w w' := by
  by_cases h0 : 0 ≤ p
  · by_cases h1 : p < 12
    · obtain ⟨k, rfl⟩ := Int.eq_ofNat_of_zero_le h0
      have hk : k < 12 := by omega
      obtain ⟨b, o, X, e, hb, hc, ho⟩ := ht.thing k hk
      have hB2 : (!decide (X.k = 0)) = B := by
        rw [← hB, ho.k]
        unfold isThere
        simp [h0, h1]
      have HB : Hid ((X.k != 0) = B) := by show _ = _; rw [← hB2]; rfl
      have c0 := ((hc.c0))
      have dg : decide (0 ≤ (k : Int)) = true := by simp
      have dl : decide ((k : Int) < 12) = true := by simpa using h1
      rw [e]
      clear hB2 hB hc ho ht e h0
      go_enter Try.func41, Try.ntmps41
      go_wp2
      go_ret
      exact ⟨by rw [HB.out]; rfl, (Below.refl _ _).alloc (Nat.le_refl _) _⟩
    · have dg : decide (0 ≤ p) = true := by simpa using h0
      have dl : decide (p < 12) = false := by simpa using h1
      have hB2 : B = false := by rw [← hB]; unfold isThere; simp [h1]
      subst hB2
      clear hB ht
      go_enter Try.func41, Try.ntmps41
      go_wp2
      go_ret
      exact ⟨rfl, (Below.refl _ _).alloc (Nat.le_refl _) _⟩
  · have dg : decide (0 ≤ p) = false := by simpa using h0
    have hB2 : B = false := by rw [← hB]; unfold isThere; simp [h0]
    subst hB2
    clear hB ht
    go_enter Try.func41, Try.ntmps41
    go_wp2
    go_ret
    exact ⟨rfl, (Below.refl _ _).alloc (Nat.le_refl _) _⟩
end Go.Proofs.Ytcncpefdjgnhdaa
