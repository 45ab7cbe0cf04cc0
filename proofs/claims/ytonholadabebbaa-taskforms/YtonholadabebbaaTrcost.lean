/-
  The document's Costs.
-/
import Derived.Test.YtonholadabebbaaTrmay
namespace Go.Proofs.Ytonholadabebbaa
open Go.ChangeShapes Go.WideShapes Go.ChangeAt Go.RowKit
attribute [local go_sem ↓] Go.wp_at_zero Go.wp_at_succ

theorem refway (p : Option Addr) (c : Nat) (l : List In) (w : World) (hr : Rd eIn w p c l) (n : Nat) (hN : l.length = n) (hl : n ≤ 1000) (hk : wyB l = true) (B : Bool) (hB : okB l = B) :
    Calls Try.prog 22 #[.slice p n c] w fun e w' => (∃ X : Cz, e = .returned (.tuple #[.agg #[.int .i64 X.a, .int .i64 X.b, .slice X.q X.m X.d], .bool B]) ∧ WayN w' w.heap.size X l) ∧ Below w.heap.size w w' := by
  refine (refcost_any p c l w hr n hN hl B hB).mono ?_
  rintro e w' ⟨⟨X, rfl, h1, h2⟩, hb⟩
  refine ⟨⟨X, rfl, ?_⟩, hb⟩
  by_cases h0 : l.length = 0
  · have e0 : l = [] := List.eq_nil_of_length_eq_zero h0
    have eB : B = false := by rw [← hB, e0]; exact ok_nil
    rw [h2 eB]
    exact way_zero _ _ _ h0
  · have eB : B = true := by rw [← hB, ← wy_pos (by omega)]; exact hk
    exact way_of h0 (h1 eB)
set_option maxRecDepth 20000 in
set_option maxHeartbeats 4000000 in
theorem rcosts_any (r p e : Int) (mp : Option Addr) (mn mc : Nat) (wp : Option Addr) (wn wc : Nat) (op : Option Addr) (on oc : Nat) (M W O : List In) (w : World) (h3 : Tk3 w mp mn mc wp wn wc op on oc M W O) (E : Int) (hE : erT r p e M W O = E) (A L : Int) (hA : cosT E M = A) (hL : losT E M W = L) (m : Nat) (hm : (spaT E M W).length = m) :
    Calls Try.prog 12 #[.agg #[.int .i64 r, .int .i64 p, .int .i64 e, .slice mp mn mc, .slice wp wn wc, .slice op on oc]] w fun e9 w' => (∃ q d, e9 = .returned (.tuple #[.int .i64 A, .int .i64 L, .slice q m d]) ∧ Own eSp w' w.heap.size 39 q d (spaT E M W)) ∧ Below w.heap.size w w' := by
  have s1 := bel_self w (.cells #[.int .i64 r, .int .i64 p, .int .i64 e, .slice mp mn mc, .slice wp wn wc, .slice op on oc] 24)
  have h31 := h3.below s1
  have hk := rmay_any r p e mp mn mc wp wn wc op on oc M W O _ h31 E hE
  have A1 := Lv.new w #[.int .i64 r, .int .i64 p, .int .i64 e, .slice mp mn mc, .slice wp wn wc, .slice op on oc] 24
  have a0 := A1.c 0 rfl
  have a1 := A1.c 1 rfl
  have a2 := A1.c 2 rfl
  have a3 := A1.c 3 rfl
  have a4 := A1.c 4 rfl
  have a5 := A1.c 5 rfl
  by_cases h0 : E = 0
  · subst h0
    obtain ⟨_, _, _, k1, k2, _, _, _⟩ := er0 hE
    have HWN : Hid (W.length = wn) := h3.n
    have HL : Hid ((spL M M.length).length + (tws W).length ≤ 48) := spa_len k1 k2
    have hS : spaT 0 M W = spL M M.length ++ tws W := if_pos rfl
    rw [hS] at hm ⊢
    rw [List.length_append] at hm
    have HM : Hid ((spL M M.length).length + (tws W).length = m) := hm
    have hA : ((tk M : Nat) : Int) = A := hA
    have HK : Hid (okB M = true ∧ wyB W = true) := ⟨k1, k2⟩
    have HLL : Hid (losT 0 M W = L) := hL
    clear hE h3 hS k1 k2 hm hL
    go_enter Try.func12, Try.ntmps12
    go_upto_region 6 with (first
      | (go_at_call 22; refine (refway wp wc W _ h33.rW wn h33.n h33.n9 HK.out.2 _ rfl).mono ?_; rintro e9 w4 ⟨⟨X2, rfl, hX2⟩, b4⟩; have B4 := bel_call b4 (Nat.le_refl _) (bel_self w4 (.cells #[.int .i64 X2.a, .int .i64 X2.b, .slice X2.q X2.m X2.d] 53)); have A4 := A3.below B4; have hw4 := hX2.below (bel_self w4 (.cells #[.int .i64 X2.a, .int .i64 X2.b, .slice X2.q X2.m X2.d] 53)); have hc4 := hc3.below B4; clear hX2 c0 c1 c2; have V14 := V13.below B4; have V24 := Vc.new w4 X2; obtain ⟨c0, c1, c2⟩ := V14.at; obtain ⟨d0, d1, d2⟩ := V24.at; clear a0 a1 a2 a3 a4 a5; have a0 := A4.c 0 rfl; have a1 := A4.c 1 rfl; have a2 := A4.c 2 rfl; have a3 := A4.c 3 rfl; have a4 := A4.c 4 rfl; have a5 := A4.c 5 rfl)
      | (go_at_call 22; refine (refcost_any mp mc M _ h32.rM mn h32.m h32.m9 true HK.out.1).mono ?_; rintro e9 w3 ⟨⟨X1, rfl, hX1, hZ1⟩, b3⟩; have B3 := bel_call b3 (Nat.le_refl _) (bel_self w3 (.cells #[.int .i64 X1.a, .int .i64 X1.b, .slice X1.q X1.m X1.d] 53)); have A3 := A2.below B3; have h33 := h32.below B3; have hc3 := (hX1 rfl).below (bel_self w3 (.cells #[.int .i64 X1.a, .int .i64 X1.b, .slice X1.q X1.m X1.d] 53)); clear hX1 hZ1; have V13 := Vc.new w3 X1; obtain ⟨c0, c1, c2⟩ := V13.at; clear a0 a1 a2 a3 a4 a5; have a0 := A3.c 0 rfl; have a1 := A3.c 1 rfl; have a2 := A3.c 2 rfl; have a3 := A3.c 3 rfl; have a4 := A3.c 4 rfl; have a5 := A3.c 5 rfl)
      | (go_at_call 14; refine hk.mono ?_; rintro e9 w2 ⟨rfl, b2⟩; have A2 := A1.below b2; have h32 := h31.below b2; clear a0 a1 a2 a3 a4 a5; have a0 := A2.c 0 rfl; have a1 := A2.c 1 rfl; have a2 := A2.c 2 rfl; have a3 := A2.c 3 rfl; have a4 := A2.c 4 rfl; have a5 := A2.c 5 rfl))
    have BX := bel_call (bel_call (bel_call s1 (Nat.le_refl _) b2) (Nat.le_refl _) B3) (Nat.le_refl _) B4
    obtain ⟨WX, hWX⟩ : ∃ WX, WX = w4.alloc (.cells #[.int .i64 X2.a, .int .i64 X2.b, .slice X2.q X2.m X2.d] 53) := ⟨_, rfl⟩
    rw [← hWX] at BX hc4 hw4 V14 V24 c0 c1 c2 d0 d1 d2 a0 a1 a2 a3 a4 a5 ⊢
    have hV1 := V14
    have hV2 := V24
    clear hWX A1 A2 A3 A4 V13 V14 V24 h31 h32 h33 s1 hc3
    by_cases hw0 : wn = 0
    · have hL : ((lgs M M.length : Nat) : Int) = L := by rw [← HLL.out]; unfold losT; rw [if_pos rfl, if_pos (HWN.out.trans hw0)]
      have q6 : decide ((wn : Int) > 0) = false := by simp; omega
      go_upto_region 8 with fail
      have e1 : X1.a = A := hc4.a.trans hA
      have e2 : X1.b = L := hc4.b.trans hL
      have l1 := hc4.m.symm
      have l2 := hw4.m.symm
      have l9 : X1.m + X2.m ≤ 48 := by rw [hc4.m, hw4.m]; exact HL.out
      have l3 : X1.m + X2.m = m := by rw [hc4.m, hw4.m]; exact HM.out
      have rd1 := own_rd hc4.o
      have rd2 := own_rd hw4.o
      clear hc4 hw4 a0 a1 a2 a3 a4 a5 c0 c1 c2 d0 d1 d2 q6 hw0
      refine wp_region_held_drew (S := fun w' => Below WX.heap.size WX w') (by kernel_rfl) (Below.refl _ _).drew (fun hHeld => ?_)
      refine wpAnyH_take (i := 0) (oi := _) (v := ?_) rfl (by kernel_rfl) (by kernel_rfl) (by kernel_rfl) (fun _ _ _ h => h) (Or.inl ⟨by rfl, ?_⟩) hHeld ?_
      rotate_left
      · intro w' hSw
        (go_simp <;> with_reducible rfl)
      try simp only [Act.put, List.getElem_toArray, List.getElem_cons_zero, List.setIfInBounds_toArray, List.set_cons_zero, List.set_cons_succ]
      refine wpAnyH_take (i := 1) (oi := _) (v := ?_) rfl (by kernel_rfl) (by kernel_rfl) (by kernel_rfl) (fun _ _ _ h => h) (Or.inl ⟨by rfl, ?_⟩) hHeld ?_
      rotate_left
      · intro w' hSw
        obtain ⟨c0, c1, c2⟩ := (hV1.below hSw).at
        obtain ⟨d0, d1, d2⟩ := (hV2.below hSw).at
        (go_simp <;> with_reducible rfl)
      try simp only [Act.put, List.getElem_toArray, List.getElem_cons_succ, List.getElem_cons_zero, List.setIfInBounds_toArray, List.set_cons_zero, List.set_cons_succ]
      refine wpAnyH_take (i := 2) (oi := _) (v := ?_) rfl (by kernel_rfl) (by kernel_rfl) (by kernel_rfl) (fun _ _ _ h => h) (Or.inl ⟨by rfl, ?_⟩) hHeld ?_
      rotate_left
      · intro w' hSw
        (go_simp <;> with_reducible rfl)
      try simp only [Act.put, List.getElem_toArray, List.getElem_cons_succ, List.getElem_cons_zero, List.setIfInBounds_toArray, List.set_cons_zero, List.set_cons_succ]
      refine wpAnyH_take (i := 4) (oi := _) (v := ?_) rfl (by kernel_rfl) (by kernel_rfl) (by kernel_rfl) (fun _ _ _ h => h) (Or.inl ⟨by rfl, ?_⟩) hHeld ?_
      rotate_left
      · intro w' hSw
        (go_simp <;> with_reducible rfl)
      try simp only [Act.put, List.getElem_toArray, List.getElem_cons_succ, List.getElem_cons_zero, List.setIfInBounds_toArray, List.set_cons_zero, List.set_cons_succ]
      refine wpAnyH_take (i := 5) (oi := _) (v := ?_) rfl (by kernel_rfl) (by kernel_rfl) (by kernel_rfl) (fun _ _ _ h => h) (Or.inl ⟨by rfl, ?_⟩) hHeld ?_
      rotate_left
      · intro w' hSw
        obtain ⟨c0, c1, c2⟩ := (hV1.below hSw).at
        obtain ⟨d0, d1, d2⟩ := (hV2.below hSw).at
        (go_simp <;> with_reducible rfl)
      try simp only [Act.put, List.getElem_toArray, List.getElem_cons_succ, List.getElem_cons_zero, List.setIfInBounds_toArray, List.set_cons_zero, List.set_cons_succ]
      refine wpAnyH_take (i := 7) (oi := _) (v := ?_) rfl (by kernel_rfl) (by kernel_rfl) (by kernel_rfl) (fun _ _ _ h => h) (Or.inl ⟨by rfl, ?_⟩) hHeld ?_
      rotate_left
      · intro w' hSw
        (go_simp <;> with_reducible rfl)
      try simp only [Act.put, List.getElem_toArray, List.getElem_cons_succ, List.getElem_cons_zero, List.setIfInBounds_toArray, List.set_cons_zero, List.set_cons_succ]
      refine wpAnyH_take (i := 8) (oi := _) (v := ?_) rfl (by kernel_rfl) (by kernel_rfl) (by kernel_rfl) (fun _ _ _ h => h) (Or.inl ⟨by rfl, ?_⟩) hHeld ?_
      rotate_left
      · intro w' hSw
        obtain ⟨c0, c1, c2⟩ := (hV1.below hSw).at
        obtain ⟨d0, d1, d2⟩ := (hV2.below hSw).at
        (go_simp <;> with_reducible rfl)
      try simp only [Act.put, List.getElem_toArray, List.getElem_cons_succ, List.getElem_cons_zero, List.setIfInBounds_toArray, List.set_cons_zero, List.set_cons_succ]
      refine wpAnyH_ready (rs := [3]) (by kernel_rfl) (by simp) ?_
      refine AllReadyH.cons (o := _) rfl (fun K hK => ?_) (AllReadyH.nil)
      go_simp
      have bA : Below WX.heap.size WX (WX.alloc (.cells #[] 39)).drew := (bel_self _ _).drew
      have lA : Own eSp (WX.alloc (.cells #[] 39)).drew WX.heap.size 39 (some ⟨WX.heap.size, 0, none⟩) 0 [] := ⟨by simp [fl], .inr ⟨WX.heap.size, 0, #[], rfl, Nat.le_refl _, Lv.draw (Lv.new _ _ _), Nat.le_refl _, Nat.zero_le _, by simp, by simp [fl]⟩⟩
      refine hK.out _ _ bA (fun hHeld => ?_)
      clear hK K
      obtain ⟨wA, hwA⟩ : ∃ wA, wA = (WX.alloc (.cells #[] 39)).drew := ⟨_, rfl⟩
      rw [← hwA] at bA lA hHeld ⊢
      clear hwA
      try simp only [Act.put, List.getElem_toArray, List.getElem_cons_succ, List.getElem_cons_zero, List.setIfInBounds_toArray, List.set_cons_zero, List.set_cons_succ]
      refine wpAnyH_ready (rs := [6]) (by kernel_rfl) (by simp) ?_
      refine AllReadyH.cons (o := _) rfl (fun K hK => ?_) (AllReadyH.nil)
      refine step_app tSp _ rfl _ _ rfl WX.heap.size (some ⟨WX.heap.size, 0, none⟩) 0 [] 0 rfl rfl lA X1.q X1.d (spL M M.length) X1.m l1 rfl (rd1.below bA) (by omega) bA.size X1.m (Nat.zero_add _) ?_
      intro p1 c1 w1 o1 b1 g1
      have B1 := bA.trans b1
      refine hK.out _ _ B1 (fun hHeld => ?_)
      clear hK K
      try simp only [Act.put, List.getElem_toArray, List.getElem_cons_succ, List.getElem_cons_zero, List.setIfInBounds_toArray, List.set_cons_zero, List.set_cons_succ]
      refine wpAnyH_ready (rs := [9]) (by kernel_rfl) (by simp) ?_
      refine AllReadyH.cons (o := _) rfl (fun K hK => ?_) (AllReadyH.nil)
      refine step_app tSp _ rfl _ _ rfl WX.heap.size p1 c1 ([] ++ spL M M.length) X1.m (by rw [List.nil_append]; exact l1) rfl o1 X2.q X2.d (tws W) X2.m l2 rfl (rd2.below B1) (by omega) B1.size m l3 ?_
      intro q d w3 o3 b3 g3
      have B3 := B1.trans b3
      refine hK.out _ _ B3 (fun hHeld => ?_)
      clear hK K
      try simp only [Act.put, List.getElem_toArray, List.getElem_cons_succ, List.getElem_cons_zero, List.setIfInBounds_toArray, List.set_cons_zero, List.set_cons_succ]
      refine wpAnyH_take (i := 10) (oi := _) (v := ?_) rfl (by kernel_rfl) (by kernel_rfl) (by kernel_rfl) (fun _ _ _ h => h) (Or.inl ⟨by rfl, ?_⟩) hHeld ?_
      rotate_left
      · intro w' hSw
        (go_simp <;> with_reducible rfl)
      try simp only [Act.put, List.getElem_toArray, List.getElem_cons_succ, List.getElem_cons_zero, List.setIfInBounds_toArray, List.set_cons_zero, List.set_cons_succ]
      refine wpAnyH_take (i := 11) (oi := _) (v := ?_) rfl (by kernel_rfl) (by kernel_rfl) (by kernel_rfl) (fun _ _ _ h => h) (Or.inl ⟨by rfl, ?_⟩) hHeld ?_
      rotate_left
      · intro w' hSw
        (go_simp <;> with_reducible rfl)
      try simp only [Act.put, List.getElem_toArray, List.getElem_cons_succ, List.getElem_cons_zero, List.setIfInBounds_toArray, List.set_cons_zero, List.set_cons_succ]
      refine wpAnyH_take (i := 12) (oi := _) (v := ?_) rfl (by kernel_rfl) (by kernel_rfl) (by kernel_rfl) (fun _ _ _ h => h) (Or.inl ⟨by rfl, ?_⟩) hHeld ?_
      rotate_left
      · intro w' hSw
        (go_simp <;> with_reducible rfl)
      try simp only [Act.put, List.getElem_toArray, List.getElem_cons_succ, List.getElem_cons_zero, List.setIfInBounds_toArray, List.set_cons_zero, List.set_cons_succ]
      refine wpAnyH_done (by kernel_rfl) ?_ _
      go_wp2
      refine bodyPost_ret (v := .tuple #[.int .i64 A, .int .i64 L, .slice q m d]) (by simp [results, Try.results12]) rfl ⟨⟨q, d, rfl, own_mono o3 BX.size⟩, bel_call BX (Nat.le_refl _) B3⟩
    · have hL : ((tk W : Nat) : Int) = L := by rw [← HLL.out]; unfold losT; rw [if_pos rfl, if_neg (by rw [HWN.out]; exact hw0)]
      have hT : twk W = tk W := by unfold twk; rw [if_neg (by rw [HWN.out]; exact hw0)]
      have q6 : decide ((wn : Int) > 0) = true := by simp; omega
      go_upto_region 8 with fail
      have e1 : X1.a = A := hc4.a.trans hA
      have e2 : X2.a = L := hw4.a.trans (by rw [hT]; exact hL)
      have l1 := hc4.m.symm
      have l2 := hw4.m.symm
      have l9 : X1.m + X2.m ≤ 48 := by rw [hc4.m, hw4.m]; exact HL.out
      have l3 : X1.m + X2.m = m := by rw [hc4.m, hw4.m]; exact HM.out
      have rd1 := own_rd hc4.o
      have rd2 := own_rd hw4.o
      clear hc4 hw4 a0 a1 a2 a3 a4 a5 c0 c1 c2 d0 d1 d2 q6 hw0
      refine wp_region_held_drew (S := fun w' => Below WX.heap.size WX w') (by kernel_rfl) (Below.refl _ _).drew (fun hHeld => ?_)
      refine wpAnyH_take (i := 0) (oi := _) (v := ?_) rfl (by kernel_rfl) (by kernel_rfl) (by kernel_rfl) (fun _ _ _ h => h) (Or.inl ⟨by rfl, ?_⟩) hHeld ?_
      rotate_left
      · intro w' hSw
        (go_simp <;> with_reducible rfl)
      try simp only [Act.put, List.getElem_toArray, List.getElem_cons_zero, List.setIfInBounds_toArray, List.set_cons_zero, List.set_cons_succ]
      refine wpAnyH_take (i := 1) (oi := _) (v := ?_) rfl (by kernel_rfl) (by kernel_rfl) (by kernel_rfl) (fun _ _ _ h => h) (Or.inl ⟨by rfl, ?_⟩) hHeld ?_
      rotate_left
      · intro w' hSw
        obtain ⟨c0, c1, c2⟩ := (hV1.below hSw).at
        obtain ⟨d0, d1, d2⟩ := (hV2.below hSw).at
        (go_simp <;> with_reducible rfl)
      try simp only [Act.put, List.getElem_toArray, List.getElem_cons_succ, List.getElem_cons_zero, List.setIfInBounds_toArray, List.set_cons_zero, List.set_cons_succ]
      refine wpAnyH_take (i := 2) (oi := _) (v := ?_) rfl (by kernel_rfl) (by kernel_rfl) (by kernel_rfl) (fun _ _ _ h => h) (Or.inl ⟨by rfl, ?_⟩) hHeld ?_
      rotate_left
      · intro w' hSw
        (go_simp <;> with_reducible rfl)
      try simp only [Act.put, List.getElem_toArray, List.getElem_cons_succ, List.getElem_cons_zero, List.setIfInBounds_toArray, List.set_cons_zero, List.set_cons_succ]
      refine wpAnyH_take (i := 4) (oi := _) (v := ?_) rfl (by kernel_rfl) (by kernel_rfl) (by kernel_rfl) (fun _ _ _ h => h) (Or.inl ⟨by rfl, ?_⟩) hHeld ?_
      rotate_left
      · intro w' hSw
        (go_simp <;> with_reducible rfl)
      try simp only [Act.put, List.getElem_toArray, List.getElem_cons_succ, List.getElem_cons_zero, List.setIfInBounds_toArray, List.set_cons_zero, List.set_cons_succ]
      refine wpAnyH_take (i := 5) (oi := _) (v := ?_) rfl (by kernel_rfl) (by kernel_rfl) (by kernel_rfl) (fun _ _ _ h => h) (Or.inl ⟨by rfl, ?_⟩) hHeld ?_
      rotate_left
      · intro w' hSw
        obtain ⟨c0, c1, c2⟩ := (hV1.below hSw).at
        obtain ⟨d0, d1, d2⟩ := (hV2.below hSw).at
        (go_simp <;> with_reducible rfl)
      try simp only [Act.put, List.getElem_toArray, List.getElem_cons_succ, List.getElem_cons_zero, List.setIfInBounds_toArray, List.set_cons_zero, List.set_cons_succ]
      refine wpAnyH_take (i := 7) (oi := _) (v := ?_) rfl (by kernel_rfl) (by kernel_rfl) (by kernel_rfl) (fun _ _ _ h => h) (Or.inl ⟨by rfl, ?_⟩) hHeld ?_
      rotate_left
      · intro w' hSw
        (go_simp <;> with_reducible rfl)
      try simp only [Act.put, List.getElem_toArray, List.getElem_cons_succ, List.getElem_cons_zero, List.setIfInBounds_toArray, List.set_cons_zero, List.set_cons_succ]
      refine wpAnyH_take (i := 8) (oi := _) (v := ?_) rfl (by kernel_rfl) (by kernel_rfl) (by kernel_rfl) (fun _ _ _ h => h) (Or.inl ⟨by rfl, ?_⟩) hHeld ?_
      rotate_left
      · intro w' hSw
        obtain ⟨c0, c1, c2⟩ := (hV1.below hSw).at
        obtain ⟨d0, d1, d2⟩ := (hV2.below hSw).at
        (go_simp <;> with_reducible rfl)
      try simp only [Act.put, List.getElem_toArray, List.getElem_cons_succ, List.getElem_cons_zero, List.setIfInBounds_toArray, List.set_cons_zero, List.set_cons_succ]
      refine wpAnyH_ready (rs := [3]) (by kernel_rfl) (by simp) ?_
      refine AllReadyH.cons (o := _) rfl (fun K hK => ?_) (AllReadyH.nil)
      go_simp
      have bA : Below WX.heap.size WX (WX.alloc (.cells #[] 39)).drew := (bel_self _ _).drew
      have lA : Own eSp (WX.alloc (.cells #[] 39)).drew WX.heap.size 39 (some ⟨WX.heap.size, 0, none⟩) 0 [] := ⟨by simp [fl], .inr ⟨WX.heap.size, 0, #[], rfl, Nat.le_refl _, Lv.draw (Lv.new _ _ _), Nat.le_refl _, Nat.zero_le _, by simp, by simp [fl]⟩⟩
      refine hK.out _ _ bA (fun hHeld => ?_)
      clear hK K
      obtain ⟨wA, hwA⟩ : ∃ wA, wA = (WX.alloc (.cells #[] 39)).drew := ⟨_, rfl⟩
      rw [← hwA] at bA lA hHeld ⊢
      clear hwA
      try simp only [Act.put, List.getElem_toArray, List.getElem_cons_succ, List.getElem_cons_zero, List.setIfInBounds_toArray, List.set_cons_zero, List.set_cons_succ]
      refine wpAnyH_ready (rs := [6]) (by kernel_rfl) (by simp) ?_
      refine AllReadyH.cons (o := _) rfl (fun K hK => ?_) (AllReadyH.nil)
      refine step_app tSp _ rfl _ _ rfl WX.heap.size (some ⟨WX.heap.size, 0, none⟩) 0 [] 0 rfl rfl lA X1.q X1.d (spL M M.length) X1.m l1 rfl (rd1.below bA) (by omega) bA.size X1.m (Nat.zero_add _) ?_
      intro p1 c1 w1 o1 b1 g1
      have B1 := bA.trans b1
      refine hK.out _ _ B1 (fun hHeld => ?_)
      clear hK K
      try simp only [Act.put, List.getElem_toArray, List.getElem_cons_succ, List.getElem_cons_zero, List.setIfInBounds_toArray, List.set_cons_zero, List.set_cons_succ]
      refine wpAnyH_ready (rs := [9]) (by kernel_rfl) (by simp) ?_
      refine AllReadyH.cons (o := _) rfl (fun K hK => ?_) (AllReadyH.nil)
      refine step_app tSp _ rfl _ _ rfl WX.heap.size p1 c1 ([] ++ spL M M.length) X1.m (by rw [List.nil_append]; exact l1) rfl o1 X2.q X2.d (tws W) X2.m l2 rfl (rd2.below B1) (by omega) B1.size m l3 ?_
      intro q d w3 o3 b3 g3
      have B3 := B1.trans b3
      refine hK.out _ _ B3 (fun hHeld => ?_)
      clear hK K
      try simp only [Act.put, List.getElem_toArray, List.getElem_cons_succ, List.getElem_cons_zero, List.setIfInBounds_toArray, List.set_cons_zero, List.set_cons_succ]
      refine wpAnyH_take (i := 10) (oi := _) (v := ?_) rfl (by kernel_rfl) (by kernel_rfl) (by kernel_rfl) (fun _ _ _ h => h) (Or.inl ⟨by rfl, ?_⟩) hHeld ?_
      rotate_left
      · intro w' hSw
        (go_simp <;> with_reducible rfl)
      try simp only [Act.put, List.getElem_toArray, List.getElem_cons_succ, List.getElem_cons_zero, List.setIfInBounds_toArray, List.set_cons_zero, List.set_cons_succ]
      refine wpAnyH_take (i := 11) (oi := _) (v := ?_) rfl (by kernel_rfl) (by kernel_rfl) (by kernel_rfl) (fun _ _ _ h => h) (Or.inl ⟨by rfl, ?_⟩) hHeld ?_
      rotate_left
      · intro w' hSw
        (go_simp <;> with_reducible rfl)
      try simp only [Act.put, List.getElem_toArray, List.getElem_cons_succ, List.getElem_cons_zero, List.setIfInBounds_toArray, List.set_cons_zero, List.set_cons_succ]
      refine wpAnyH_take (i := 12) (oi := _) (v := ?_) rfl (by kernel_rfl) (by kernel_rfl) (by kernel_rfl) (fun _ _ _ h => h) (Or.inl ⟨by rfl, ?_⟩) hHeld ?_
      rotate_left
      · intro w' hSw
        (go_simp <;> with_reducible rfl)
      try simp only [Act.put, List.getElem_toArray, List.getElem_cons_succ, List.getElem_cons_zero, List.setIfInBounds_toArray, List.set_cons_zero, List.set_cons_succ]
      refine wpAnyH_done (by kernel_rfl) ?_ _
      go_wp2
      refine bodyPost_ret (v := .tuple #[.int .i64 A, .int .i64 L, .slice q m d]) (by simp [results, Try.results12]) rfl ⟨⟨q, d, rfl, own_mono o3 BX.size⟩, bel_call BX (Nat.le_refl _) B3⟩
  · have hA0 : A = 0 := by rw [← hA]; unfold cosT; rw [if_neg h0]
    have hL0 : L = 0 := by rw [← hL]; unfold losT; rw [if_neg h0]
    have hS : spaT E M W = [] := if_neg h0
    rw [hS] at hm ⊢
    have hm0 : m = 0 := hm.symm
    subst hA0 hL0 hm0
    have q1 : (E == 0) = false := by simp [h0]
    have q2 : (E != 0) = true := by simp [h0]
    have q3 : decide (E = 0) = false := by simp [h0]
    clear hE h31 h3 hA hL hm hS
    go_enter Try.func12, Try.ntmps12
    go_wp2_with (go_at_call 14; refine hk.mono ?_; rintro e9 w2 ⟨rfl, b2⟩)
    refine bodyPost_ret (v := .tuple #[.int .i64 0, .int .i64 0, .slice none 0 0]) (by simp [results, Try.results12]) rfl ⟨⟨none, 0, rfl, own_nil _ _ _⟩, bel_call s1 (Nat.le_refl _) b2⟩
end Go.Proofs.Ytonholadabebbaa
