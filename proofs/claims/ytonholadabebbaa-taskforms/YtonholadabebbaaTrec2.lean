/-
  The reckoning of package task.
-/
import Derived.Test.YtonholadabebbaaTsm
import Derived.Deep.Cut
import Derived.Deep.CutRange
namespace Go.Proofs.Ytonholadabebbaa
open Go.ChangeShapes Go.WideShapes Go.ChangeAt Go.RowKit
attribute [local go_sem ↓] Go.wp_at_zero Go.wp_at_succ

/-- why a task may not be -/
def erT (r p e : Int) (M W O : List In) : Int :=
  if ¬ (0 ≤ r ∧ r ≤ 63) then 1 else if ¬ (1 ≤ p ∧ p ≤ 16384) then 9 else if ¬ (1 ≤ e ∧ e ≤ p) then 9 else if okB M = false then 2 else if wyB W = false then 2 else if optB O = false then 2 else if e < (tk M : Nat) then 10 else if tk M < twk W then 12 else 0
/-- a number as it lies in memory -/
def I64 (x : Int) : Prop := -9223372036854775808 ≤ x ∧ x ≤ 9223372036854775807
/-- the programs of a task, read -/
structure Tk3 (w : World) (mp : Option Addr) (mn mc : Nat) (wp : Option Addr) (wn wc : Nat) (op : Option Addr) (on oc : Nat) (M W O : List In) : Prop where
  rM : Rd eIn w mp mc M
  rW : Rd eIn w wp wc W
  rO : Rd eIn w op oc O
  m : M.length = mn
  n : W.length = wn
  o : O.length = on
  m9 : mn ≤ 1000
  n9 : wn ≤ 1000
  o9 : on ≤ 1000
theorem Tk3.below {w w' : World} {mp : Option Addr} {mn mc : Nat} {wp : Option Addr} {wn wc : Nat} {op : Option Addr} {on oc : Nat} {M W O : List In} (h : Tk3 w mp mn mc wp wn wc op on oc M W O) (hb : Below w.heap.size w w') : Tk3 w' mp mn mc wp wn wc op on oc M W O := { h with rM := h.rM.below hb, rW := h.rW.below hb, rO := h.rO.below hb }
theorem twk_le (l : List In) : ((twk l : Nat) : Int) = (twk l : Nat) := rfl
set_option maxRecDepth 20000 in
set_option maxHeartbeats 8000000 in
theorem reckon_any (r p e : Int) (mp : Option Addr) (mn mc : Nat) (wp : Option Addr) (wn wc : Nat) (op : Option Addr) (on oc : Nat) (M W O : List In) (w : World) (h3 : Tk3 w mp mn mc wp wn wc op on oc M W O) (hr : I64 r) (hp : I64 p) (he : I64 e) (E : Int) (hE : erT r p e M W O = E) :
    Calls Try.prog 19 #[.agg #[.int .i64 r, .int .i64 p, .int .i64 e, .slice mp mn mc, .slice wp wn wc, .slice op on oc]] w fun e9 w' => (∃ X1 X2 : Cz, e9 = .returned (.tuple #[.agg #[.int .i64 X1.a, .int .i64 X1.b, .slice X1.q X1.m X1.d], .agg #[.int .i64 X2.a, .int .i64 X2.b, .slice X2.q X2.m X2.d], .int .i64 E]) ∧ Hid (E = 0 → CostN w' w.heap.size X1 M ∧ WayN w' w.heap.size X2 W)) ∧ Below w.heap.size w w' := by
  have HE : Hid (erT r p e M W O = E) := hE
  clear hE
  obtain ⟨W0, hW0⟩ : ∃ W0, W0 = ((w.alloc (.cells #[.int .i64 r, .int .i64 p, .int .i64 e, .slice mp mn mc, .slice wp wn wc, .slice op on oc] 24)).alloc (.cells #[.int .i64 0, .int .i64 0, .slice none 0 0] 53)).alloc (.cells #[.int .i64 0, .int .i64 0, .slice none 0 0] 53) := ⟨_, rfl⟩
  have b0 : Below w.heap.size w W0 := by rw [hW0]; exact ((bel_self _ _).alloc (by simp) _).alloc (by simp; omega) _
  have hsz : W0.heap.size = w.heap.size + 3 := by rw [hW0]; simp
  have hA : Lv W0 w.heap.size #[.int .i64 r, .int .i64 p, .int .i64 e, .slice mp mn mc, .slice wp wn wc, .slice op on oc] 24 := by rw [hW0]; exact ((Lv.new w _ _).below (bel_self _ _)).below (bel_self _ _)
  have hV1 : Vc W0 (w.heap.size + 1) cz0 := by rw [hW0]; exact Lv.below (heap_at (by simp)) (bel_self _ _)
  have hV2 : Vc W0 (w.heap.size + 1 + 1) cz0 := by rw [hW0]; exact heap_at (by simp)
  have h30 := h3.below b0
  obtain ⟨g1, hg1⟩ : ∃ g1, g1 = w.heap.size + 1 := ⟨_, rfl⟩
  obtain ⟨g2, hg2⟩ : ∃ g2, g2 = g1 + 1 := ⟨_, rfl⟩
  have hg1w : w.heap.size ≤ g1 := by omega
  have hg2w : w.heap.size ≤ g2 := by omega
  have hg12 : g1 ≠ g2 := by omega
  have hga1 : w.heap.size ≠ g1 := by omega
  have hga2 : w.heap.size ≠ g2 := by omega
  have hg1s : g1 < W0.heap.size := by omega
  have hg2s : g2 < W0.heap.size := by omega
  rw [← hg1] at hV1
  rw [← hg1, ← hg2] at hV2
  have a0 := hA.c 0 rfl
  have a1 := hA.c 1 rfl
  have a2 := hA.c 2 rfl
  by_cases c1 : 0 ≤ r ∧ r ≤ 63
  · have d1 : decide ((0 : Int) ≤ r ∧ r ≤ 63) = true := decide_eq_true c1
    by_cases c2 : 1 ≤ p ∧ p ≤ 16384
    · have d2 : decide ((1 : Int) ≤ p ∧ p ≤ 16384) = true := decide_eq_true c2
      by_cases c3 : 1 ≤ e ∧ e ≤ p
      · have d3 : decide ((1 : Int) ≤ e ∧ e ≤ p) = true := decide_eq_true c3
        obtain ⟨kM, hkM⟩ : ∃ kM, okB M = kM := ⟨_, rfl⟩
        obtain ⟨kW, hkW⟩ : ∃ kW, wyB W = kW := ⟨_, rfl⟩
        obtain ⟨kO, hkO⟩ : ∃ kO, optB O = kO := ⟨_, rfl⟩
        have HK : Hid (okB M = kM ∧ wyB W = kW ∧ optB O = kO) := ⟨hkM, hkW, hkO⟩
        cases kM with
        | false =>
          have hEE : E = 2 := by rw [← HE.out]; unfold erT; rw [if_neg (by simp only [Classical.not_not]; exact c1), if_neg (by simp only [Classical.not_not]; exact c2), if_neg (by simp only [Classical.not_not]; exact c3), if_pos hkM]
          subst hEE
          clear hkM hkW hkO HE
          go_enter Try.func19, Try.ntmps19
          go_upto_region 1 with fail
          rw [← hW0]
          simp only [← hg1]
          simp only [← hg2]
          clear hW0 hg1 hg2 hsz
          have a3 := hA.c 3 rfl
          go_upto_region 8 with (first
            | (refine wpList_stV (E := eC) rfl 53 (.tmp 3) (.tmp 37) rfl size53 g2 _ V26 rfl X2 rfl rfl ?_; intro w7 L7 k7; have V17 : Vc w7 g1 X1 := Lv.kp V16 k7 hg12; have A7 := A6.kp k7 hga2; have B6 := bel_call B5 (Nat.le_refl _) b6; have B7 := bel_kp B6 k7 hg2w B6.size; have a0 := A7.c 0 rfl; have a1 := A7.c 1 rfl; have a2 := A7.c 2 rfl; have a5 := A7.c 5 rfl; have h37 := h3.below B7; obtain ⟨v0, v1, v2⟩ := V17.at; obtain ⟨y0, y1, y2⟩ := Vc.at (show Vc w7 g2 X2 from L7))
            | (go_at_call 29; refine (costway_any wp wc W _ h35.rW wn h35.n h35.n9 _ HK.out.2.1).mono ?_; rintro e9 w6 ⟨⟨X2, rfl, hX2⟩, b6⟩; have V16 := Lv.below L5 b6; have V26 := V25.below b6; have A6 := A5.below b6; clear a0 a1 a2 a4)
            | (refine wpList_stV (E := eC) rfl 53 (.tmp 2) (.tmp 31) rfl size53 g1 _ V14 rfl X1 rfl rfl ?_; intro w5 L5 k5; have V25 := Lv.kp V24 k5 hg12.symm; have A5 := A4.kp k5 hga1; have B5 := bel_kp (bel_call b0 (Nat.le_refl _) b4) k5 hg1w (bel_call b0 (Nat.le_refl _) b4).size; have a0 := A5.c 0 rfl; have a1 := A5.c 1 rfl; have a2 := A5.c 2 rfl; have a4 := A5.c 4 rfl; have h35 := h3.below B5)
            | (go_at_call 28; refine (of_any mp mc M _ h30.rM mn h30.m h30.m9 _ HK.out.1).mono ?_; rintro e9 w4 ⟨⟨X1, rfl, hX1⟩, b4⟩; have V14 := hV1.below b4; have V24 := hV2.below b4; have A4 := hA.below b4; clear a0 a1 a2)
            | (go_at_call 27; have _u := mk2; refine (within_any e 1 p _ true d3 he.1 he.2 (by omega) (by omega) (by omega)).mono ?_; rintro e9 wq ⟨rfl, hq⟩; rw [hq]; clear hq wq)
            | (go_at_call 27; have _u := mk1; refine (within_any p 1 16384 _ true d2 hp.1 hp.2 (by omega) (by omega) (by omega)).mono ?_; rintro e9 wq ⟨rfl, hq⟩; rw [hq]; clear hq wq; have mk2 : True := trivial)
            | (go_at_call 27; refine (within_any r 0 63 _ true d1 hr.1 hr.2 (by omega) (by omega) (by omega)).mono ?_; rintro e9 wq ⟨rfl, hq⟩; rw [hq]; clear hq wq; have mk1 : True := trivial))
          obtain ⟨WX, hWX⟩ : ∃ WX : World, WX = _ := ⟨_, rfl⟩
          have VX1 : Vc WX g1 X1 := by rw [hWX]; exact V17
          have VX2 : Vc WX g2 X2 := by rw [hWX]; exact L7
          have BX : Below w.heap.size w WX := by rw [hWX]; exact B7
          rw [← hWX]
          refine wp_region_held_drew (S := fun w' => w'.heap[g1]? = WX.heap[g1]? ∧ w'.heap[g2]? = WX.heap[g2]?) (by kernel_rfl) ⟨rfl, rfl⟩ (fun hHeld => ?_)
          refine wpAnyH_take (i := 0) (oi := _) (v := ?_) rfl (by kernel_rfl) (by kernel_rfl) (by kernel_rfl) (fun _ _ _ h => h) (Or.inl ⟨by rfl, ?_⟩) hHeld ?_
          rotate_left
          · intro w' hSw
            obtain ⟨c0, c1, c2⟩ := Vc.at (show Vc w' g1 X1 from hSw.1.trans VX1)
            (go_simp <;> with_reducible rfl)
          try simp only [Act.put, List.getElem_toArray, List.getElem_cons_zero, List.setIfInBounds_toArray, List.set_cons_zero, List.set_cons_succ]
          refine wpAnyH_take (i := 1) (oi := _) (v := ?_) rfl (by kernel_rfl) (by kernel_rfl) (by kernel_rfl) (fun _ _ _ h => h) (Or.inl ⟨by rfl, ?_⟩) hHeld ?_
          rotate_left
          · intro w' hSw
            obtain ⟨d0, d1, d2⟩ := Vc.at (show Vc w' g2 X2 from hSw.2.trans VX2)
            (go_simp <;> with_reducible rfl)
          try simp only [Act.put, List.getElem_toArray, List.getElem_cons_succ, List.getElem_cons_zero, List.setIfInBounds_toArray, List.set_cons_zero, List.set_cons_succ]
          refine wpAnyH_ready (rs := [2]) (by kernel_rfl) (by simp) ?_
          refine AllReadyH.cons (o := _) rfl (fun K hK => ?_) (AllReadyH.nil)
          refine step_stV (E := eC) rfl 53 _ _ rfl size53 g1 _ (Lv.draw VX1) rfl X1 rfl rfl ?_
          intro w9 L9 k9
          have hS9 : w9.heap[g1]? = WX.heap[g1]? ∧ w9.heap[g2]? = WX.heap[g2]? := ⟨L9.trans VX1.symm, k9.block g2 VX2.lt (by intro h; have h := Option.some.inj h; omega)⟩
          refine hK.out _ _ hS9 (fun hHeld => ?_)
          clear hK K
          try simp only [Act.put, List.getElem_toArray, List.getElem_cons_succ, List.getElem_cons_zero]
          refine wpAnyH_ready (rs := [3]) (by kernel_rfl) (by simp) ?_
          refine AllReadyH.cons (o := _) rfl (fun K hK => ?_) (AllReadyH.nil)
          have V92 : Vc w9 g2 X2 := hS9.2.trans VX2
          refine step_stV (E := eC) rfl 53 _ _ rfl size53 g2 _ V92 rfl X2 rfl rfl ?_
          intro w10 L10 k10
          have l9 : WX.heap.size ≤ w9.heap.size := k9.size
          have h1l : g1 < WX.heap.size := VX1.lt
          have hS10 : w10.heap[g1]? = WX.heap[g1]? ∧ w10.heap[g2]? = WX.heap[g2]? := ⟨(k10.block g1 (by omega) (by intro h; have h := Option.some.inj h; omega)).trans hS9.1, L10.trans VX2.symm⟩
          refine hK.out _ _ hS10 (fun hHeld => ?_)
          clear hK K
          try simp only [Act.put, List.getElem_toArray, List.getElem_cons_succ, List.getElem_cons_zero]
          refine wpAnyH_take (i := 4) (oi := _) (v := ?_) rfl (by kernel_rfl) (by kernel_rfl) (by kernel_rfl) (fun _ _ _ h => h) (Or.inl ⟨by rfl, ?_⟩) hHeld ?_
          rotate_left
          · intro w' hSw
            (go_simp <;> with_reducible rfl)
          try simp only [Act.put, List.getElem_toArray, List.getElem_cons_succ, List.getElem_cons_zero, List.setIfInBounds_toArray, List.set_cons_zero, List.set_cons_succ]
          refine wpAnyH_done (by kernel_rfl) ?_ _
          have e9 := load53 (x := X1) (show Vc w10 g1 X1 from hS10.1.trans VX1)
          have e10 := load53 (x := X2) (show Vc w10 g2 X2 from hS10.2.trans VX2)
          have B9 : Below w.heap.size w w9 := bel_kp BX.drew k9 hg1w (by have := BX.size; exact this)
          have B10 : Below w.heap.size w w10 := bel_kp B9 k10 hg2w B9.size
          clear hHeld
          go_wp2
          refine bodyPost_ret (v := .tuple #[.agg #[.int .i64 X1.a, .int .i64 X1.b, .slice X1.q X1.m X1.d], .agg #[.int .i64 X2.a, .int .i64 X2.b, .slice X2.q X2.m X2.d], .int .i64 2]) (by simp [results, Try.results19, asAddr, e9, e10]) rfl ⟨⟨X1, X2, rfl, ?_⟩, B10⟩
          exact fun h => absurd h (by decide)
        | true =>
          cases kW with
          | false =>
            have hEE : E = 2 := by rw [← HE.out]; unfold erT; rw [if_neg (by simp only [Classical.not_not]; exact c1), if_neg (by simp only [Classical.not_not]; exact c2), if_neg (by simp only [Classical.not_not]; exact c3), if_neg (by rw [hkM]; decide), if_pos hkW]
            subst hEE
            clear hkM hkW hkO HE
            go_enter Try.func19, Try.ntmps19
            go_upto_region 1 with fail
            rw [← hW0]
            simp only [← hg1]
            simp only [← hg2]
            clear hW0 hg1 hg2 hsz
            have a3 := hA.c 3 rfl
            go_upto_region 8 with (first
              | (refine wpList_stV (E := eC) rfl 53 (.tmp 3) (.tmp 37) rfl size53 g2 _ V26 rfl X2 rfl rfl ?_; intro w7 L7 k7; have V17 : Vc w7 g1 X1 := Lv.kp V16 k7 hg12; have A7 := A6.kp k7 hga2; have B6 := bel_call B5 (Nat.le_refl _) b6; have B7 := bel_kp B6 k7 hg2w B6.size; have a0 := A7.c 0 rfl; have a1 := A7.c 1 rfl; have a2 := A7.c 2 rfl; have a5 := A7.c 5 rfl; have h37 := h3.below B7; obtain ⟨v0, v1, v2⟩ := V17.at; obtain ⟨y0, y1, y2⟩ := Vc.at (show Vc w7 g2 X2 from L7))
              | (go_at_call 29; refine (costway_any wp wc W _ h35.rW wn h35.n h35.n9 _ HK.out.2.1).mono ?_; rintro e9 w6 ⟨⟨X2, rfl, hX2⟩, b6⟩; have V16 := Lv.below L5 b6; have V26 := V25.below b6; have A6 := A5.below b6; clear a0 a1 a2 a4)
              | (refine wpList_stV (E := eC) rfl 53 (.tmp 2) (.tmp 31) rfl size53 g1 _ V14 rfl X1 rfl rfl ?_; intro w5 L5 k5; have V25 := Lv.kp V24 k5 hg12.symm; have A5 := A4.kp k5 hga1; have B5 := bel_kp (bel_call b0 (Nat.le_refl _) b4) k5 hg1w (bel_call b0 (Nat.le_refl _) b4).size; have a0 := A5.c 0 rfl; have a1 := A5.c 1 rfl; have a2 := A5.c 2 rfl; have a4 := A5.c 4 rfl; have h35 := h3.below B5)
              | (go_at_call 28; refine (of_any mp mc M _ h30.rM mn h30.m h30.m9 _ HK.out.1).mono ?_; rintro e9 w4 ⟨⟨X1, rfl, hX1⟩, b4⟩; have V14 := hV1.below b4; have V24 := hV2.below b4; have A4 := hA.below b4; clear a0 a1 a2)
              | (go_at_call 27; have _u := mk2; refine (within_any e 1 p _ true d3 he.1 he.2 (by omega) (by omega) (by omega)).mono ?_; rintro e9 wq ⟨rfl, hq⟩; rw [hq]; clear hq wq)
              | (go_at_call 27; have _u := mk1; refine (within_any p 1 16384 _ true d2 hp.1 hp.2 (by omega) (by omega) (by omega)).mono ?_; rintro e9 wq ⟨rfl, hq⟩; rw [hq]; clear hq wq; have mk2 : True := trivial)
              | (go_at_call 27; refine (within_any r 0 63 _ true d1 hr.1 hr.2 (by omega) (by omega) (by omega)).mono ?_; rintro e9 wq ⟨rfl, hq⟩; rw [hq]; clear hq wq; have mk1 : True := trivial))
            obtain ⟨WX, hWX⟩ : ∃ WX : World, WX = _ := ⟨_, rfl⟩
            have VX1 : Vc WX g1 X1 := by rw [hWX]; exact V17
            have VX2 : Vc WX g2 X2 := by rw [hWX]; exact L7
            have BX : Below w.heap.size w WX := by rw [hWX]; exact B7
            rw [← hWX]
            refine wp_region_held_drew (S := fun w' => w'.heap[g1]? = WX.heap[g1]? ∧ w'.heap[g2]? = WX.heap[g2]?) (by kernel_rfl) ⟨rfl, rfl⟩ (fun hHeld => ?_)
            refine wpAnyH_take (i := 0) (oi := _) (v := ?_) rfl (by kernel_rfl) (by kernel_rfl) (by kernel_rfl) (fun _ _ _ h => h) (Or.inl ⟨by rfl, ?_⟩) hHeld ?_
            rotate_left
            · intro w' hSw
              obtain ⟨c0, c1, c2⟩ := Vc.at (show Vc w' g1 X1 from hSw.1.trans VX1)
              (go_simp <;> with_reducible rfl)
            try simp only [Act.put, List.getElem_toArray, List.getElem_cons_zero, List.setIfInBounds_toArray, List.set_cons_zero, List.set_cons_succ]
            refine wpAnyH_take (i := 1) (oi := _) (v := ?_) rfl (by kernel_rfl) (by kernel_rfl) (by kernel_rfl) (fun _ _ _ h => h) (Or.inl ⟨by rfl, ?_⟩) hHeld ?_
            rotate_left
            · intro w' hSw
              obtain ⟨d0, d1, d2⟩ := Vc.at (show Vc w' g2 X2 from hSw.2.trans VX2)
              (go_simp <;> with_reducible rfl)
            try simp only [Act.put, List.getElem_toArray, List.getElem_cons_succ, List.getElem_cons_zero, List.setIfInBounds_toArray, List.set_cons_zero, List.set_cons_succ]
            refine wpAnyH_ready (rs := [2]) (by kernel_rfl) (by simp) ?_
            refine AllReadyH.cons (o := _) rfl (fun K hK => ?_) (AllReadyH.nil)
            refine step_stV (E := eC) rfl 53 _ _ rfl size53 g1 _ (Lv.draw VX1) rfl X1 rfl rfl ?_
            intro w9 L9 k9
            have hS9 : w9.heap[g1]? = WX.heap[g1]? ∧ w9.heap[g2]? = WX.heap[g2]? := ⟨L9.trans VX1.symm, k9.block g2 VX2.lt (by intro h; have h := Option.some.inj h; omega)⟩
            refine hK.out _ _ hS9 (fun hHeld => ?_)
            clear hK K
            try simp only [Act.put, List.getElem_toArray, List.getElem_cons_succ, List.getElem_cons_zero]
            refine wpAnyH_ready (rs := [3]) (by kernel_rfl) (by simp) ?_
            refine AllReadyH.cons (o := _) rfl (fun K hK => ?_) (AllReadyH.nil)
            have V92 : Vc w9 g2 X2 := hS9.2.trans VX2
            refine step_stV (E := eC) rfl 53 _ _ rfl size53 g2 _ V92 rfl X2 rfl rfl ?_
            intro w10 L10 k10
            have l9 : WX.heap.size ≤ w9.heap.size := k9.size
            have h1l : g1 < WX.heap.size := VX1.lt
            have hS10 : w10.heap[g1]? = WX.heap[g1]? ∧ w10.heap[g2]? = WX.heap[g2]? := ⟨(k10.block g1 (by omega) (by intro h; have h := Option.some.inj h; omega)).trans hS9.1, L10.trans VX2.symm⟩
            refine hK.out _ _ hS10 (fun hHeld => ?_)
            clear hK K
            try simp only [Act.put, List.getElem_toArray, List.getElem_cons_succ, List.getElem_cons_zero]
            refine wpAnyH_take (i := 4) (oi := _) (v := ?_) rfl (by kernel_rfl) (by kernel_rfl) (by kernel_rfl) (fun _ _ _ h => h) (Or.inl ⟨by rfl, ?_⟩) hHeld ?_
            rotate_left
            · intro w' hSw
              (go_simp <;> with_reducible rfl)
            try simp only [Act.put, List.getElem_toArray, List.getElem_cons_succ, List.getElem_cons_zero, List.setIfInBounds_toArray, List.set_cons_zero, List.set_cons_succ]
            refine wpAnyH_done (by kernel_rfl) ?_ _
            have e9 := load53 (x := X1) (show Vc w10 g1 X1 from hS10.1.trans VX1)
            have e10 := load53 (x := X2) (show Vc w10 g2 X2 from hS10.2.trans VX2)
            have B9 : Below w.heap.size w w9 := bel_kp BX.drew k9 hg1w (by have := BX.size; exact this)
            have B10 : Below w.heap.size w w10 := bel_kp B9 k10 hg2w B9.size
            clear hHeld
            go_wp2
            refine bodyPost_ret (v := .tuple #[.agg #[.int .i64 X1.a, .int .i64 X1.b, .slice X1.q X1.m X1.d], .agg #[.int .i64 X2.a, .int .i64 X2.b, .slice X2.q X2.m X2.d], .int .i64 2]) (by simp [results, Try.results19, asAddr, e9, e10]) rfl ⟨⟨X1, X2, rfl, ?_⟩, B10⟩
            exact fun h => absurd h (by decide)
          | true =>
            cases kO with
            | false =>
              have hEE : E = 2 := by rw [← HE.out]; unfold erT; rw [if_neg (by simp only [Classical.not_not]; exact c1), if_neg (by simp only [Classical.not_not]; exact c2), if_neg (by simp only [Classical.not_not]; exact c3), if_neg (by rw [hkM]; decide), if_neg (by rw [hkW]; decide), if_pos hkO]
              subst hEE
              clear hkM hkW hkO HE
              go_enter Try.func19, Try.ntmps19
              go_upto_region 1 with fail
              rw [← hW0]
              simp only [← hg1]
              simp only [← hg2]
              clear hW0 hg1 hg2 hsz
              have a3 := hA.c 3 rfl
              go_upto_region 8 with (first
                | (go_at_call 30; refine (mayopt_any op oc O _ h37.rO on h37.o h37.o9 _ HK.out.2.2).mono ?_; rintro e9 w8 ⟨rfl, b8⟩; have V18 := V17.below b8; have V28 := Vc.below (show Vc w7 g2 X2 from L7) b8; have B8 := bel_call B7 (Nat.le_refl _) b8; have A8 := A7.below b8; clear v0 v1 v2 y0 y1 y2 a0 a1 a2 a5; obtain ⟨v0, v1, v2⟩ := V18.at; obtain ⟨y0, y1, y2⟩ := V28.at; have a2 := A8.c 2 rfl)
                | (refine wpList_stV (E := eC) rfl 53 (.tmp 3) (.tmp 37) rfl size53 g2 _ V26 rfl X2 rfl rfl ?_; intro w7 L7 k7; have V17 : Vc w7 g1 X1 := Lv.kp V16 k7 hg12; have A7 := A6.kp k7 hga2; have B6 := bel_call B5 (Nat.le_refl _) b6; have B7 := bel_kp B6 k7 hg2w B6.size; have a0 := A7.c 0 rfl; have a1 := A7.c 1 rfl; have a2 := A7.c 2 rfl; have a5 := A7.c 5 rfl; have h37 := h3.below B7; obtain ⟨v0, v1, v2⟩ := V17.at; obtain ⟨y0, y1, y2⟩ := Vc.at (show Vc w7 g2 X2 from L7))
                | (go_at_call 29; refine (costway_any wp wc W _ h35.rW wn h35.n h35.n9 _ HK.out.2.1).mono ?_; rintro e9 w6 ⟨⟨X2, rfl, hX2⟩, b6⟩; have V16 := Lv.below L5 b6; have V26 := V25.below b6; have A6 := A5.below b6; clear a0 a1 a2 a4)
                | (refine wpList_stV (E := eC) rfl 53 (.tmp 2) (.tmp 31) rfl size53 g1 _ V14 rfl X1 rfl rfl ?_; intro w5 L5 k5; have V25 := Lv.kp V24 k5 hg12.symm; have A5 := A4.kp k5 hga1; have B5 := bel_kp (bel_call b0 (Nat.le_refl _) b4) k5 hg1w (bel_call b0 (Nat.le_refl _) b4).size; have a0 := A5.c 0 rfl; have a1 := A5.c 1 rfl; have a2 := A5.c 2 rfl; have a4 := A5.c 4 rfl; have h35 := h3.below B5)
                | (go_at_call 28; refine (of_any mp mc M _ h30.rM mn h30.m h30.m9 _ HK.out.1).mono ?_; rintro e9 w4 ⟨⟨X1, rfl, hX1⟩, b4⟩; have V14 := hV1.below b4; have V24 := hV2.below b4; have A4 := hA.below b4; clear a0 a1 a2)
                | (go_at_call 27; have _u := mk2; refine (within_any e 1 p _ true d3 he.1 he.2 (by omega) (by omega) (by omega)).mono ?_; rintro e9 wq ⟨rfl, hq⟩; rw [hq]; clear hq wq)
                | (go_at_call 27; have _u := mk1; refine (within_any p 1 16384 _ true d2 hp.1 hp.2 (by omega) (by omega) (by omega)).mono ?_; rintro e9 wq ⟨rfl, hq⟩; rw [hq]; clear hq wq; have mk2 : True := trivial)
                | (go_at_call 27; refine (within_any r 0 63 _ true d1 hr.1 hr.2 (by omega) (by omega) (by omega)).mono ?_; rintro e9 wq ⟨rfl, hq⟩; rw [hq]; clear hq wq; have mk1 : True := trivial))
              obtain ⟨WX, hWX⟩ : ∃ WX : World, WX = _ := ⟨_, rfl⟩
              have VX1 : Vc WX g1 X1 := by rw [hWX]; exact V18
              have VX2 : Vc WX g2 X2 := by rw [hWX]; exact V28
              have BX : Below w.heap.size w WX := by rw [hWX]; exact B8
              rw [← hWX]
              refine wp_region_held_drew (S := fun w' => w'.heap[g1]? = WX.heap[g1]? ∧ w'.heap[g2]? = WX.heap[g2]?) (by kernel_rfl) ⟨rfl, rfl⟩ (fun hHeld => ?_)
              refine wpAnyH_take (i := 0) (oi := _) (v := ?_) rfl (by kernel_rfl) (by kernel_rfl) (by kernel_rfl) (fun _ _ _ h => h) (Or.inl ⟨by rfl, ?_⟩) hHeld ?_
              rotate_left
              · intro w' hSw
                obtain ⟨c0, c1, c2⟩ := Vc.at (show Vc w' g1 X1 from hSw.1.trans VX1)
                (go_simp <;> with_reducible rfl)
              try simp only [Act.put, List.getElem_toArray, List.getElem_cons_zero, List.setIfInBounds_toArray, List.set_cons_zero, List.set_cons_succ]
              refine wpAnyH_take (i := 1) (oi := _) (v := ?_) rfl (by kernel_rfl) (by kernel_rfl) (by kernel_rfl) (fun _ _ _ h => h) (Or.inl ⟨by rfl, ?_⟩) hHeld ?_
              rotate_left
              · intro w' hSw
                obtain ⟨d0, d1, d2⟩ := Vc.at (show Vc w' g2 X2 from hSw.2.trans VX2)
                (go_simp <;> with_reducible rfl)
              try simp only [Act.put, List.getElem_toArray, List.getElem_cons_succ, List.getElem_cons_zero, List.setIfInBounds_toArray, List.set_cons_zero, List.set_cons_succ]
              refine wpAnyH_ready (rs := [2]) (by kernel_rfl) (by simp) ?_
              refine AllReadyH.cons (o := _) rfl (fun K hK => ?_) (AllReadyH.nil)
              refine step_stV (E := eC) rfl 53 _ _ rfl size53 g1 _ (Lv.draw VX1) rfl X1 rfl rfl ?_
              intro w9 L9 k9
              have hS9 : w9.heap[g1]? = WX.heap[g1]? ∧ w9.heap[g2]? = WX.heap[g2]? := ⟨L9.trans VX1.symm, k9.block g2 VX2.lt (by intro h; have h := Option.some.inj h; omega)⟩
              refine hK.out _ _ hS9 (fun hHeld => ?_)
              clear hK K
              try simp only [Act.put, List.getElem_toArray, List.getElem_cons_succ, List.getElem_cons_zero]
              refine wpAnyH_ready (rs := [3]) (by kernel_rfl) (by simp) ?_
              refine AllReadyH.cons (o := _) rfl (fun K hK => ?_) (AllReadyH.nil)
              have V92 : Vc w9 g2 X2 := hS9.2.trans VX2
              refine step_stV (E := eC) rfl 53 _ _ rfl size53 g2 _ V92 rfl X2 rfl rfl ?_
              intro w10 L10 k10
              have l9 : WX.heap.size ≤ w9.heap.size := k9.size
              have h1l : g1 < WX.heap.size := VX1.lt
              have hS10 : w10.heap[g1]? = WX.heap[g1]? ∧ w10.heap[g2]? = WX.heap[g2]? := ⟨(k10.block g1 (by omega) (by intro h; have h := Option.some.inj h; omega)).trans hS9.1, L10.trans VX2.symm⟩
              refine hK.out _ _ hS10 (fun hHeld => ?_)
              clear hK K
              try simp only [Act.put, List.getElem_toArray, List.getElem_cons_succ, List.getElem_cons_zero]
              refine wpAnyH_take (i := 4) (oi := _) (v := ?_) rfl (by kernel_rfl) (by kernel_rfl) (by kernel_rfl) (fun _ _ _ h => h) (Or.inl ⟨by rfl, ?_⟩) hHeld ?_
              rotate_left
              · intro w' hSw
                (go_simp <;> with_reducible rfl)
              try simp only [Act.put, List.getElem_toArray, List.getElem_cons_succ, List.getElem_cons_zero, List.setIfInBounds_toArray, List.set_cons_zero, List.set_cons_succ]
              refine wpAnyH_done (by kernel_rfl) ?_ _
              have e9 := load53 (x := X1) (show Vc w10 g1 X1 from hS10.1.trans VX1)
              have e10 := load53 (x := X2) (show Vc w10 g2 X2 from hS10.2.trans VX2)
              have B9 : Below w.heap.size w w9 := bel_kp BX.drew k9 hg1w (by have := BX.size; exact this)
              have B10 : Below w.heap.size w w10 := bel_kp B9 k10 hg2w B9.size
              clear hHeld
              go_wp2
              refine bodyPost_ret (v := .tuple #[.agg #[.int .i64 X1.a, .int .i64 X1.b, .slice X1.q X1.m X1.d], .agg #[.int .i64 X2.a, .int .i64 X2.b, .slice X2.q X2.m X2.d], .int .i64 2]) (by simp [results, Try.results19, asAddr, e9, e10]) rfl ⟨⟨X1, X2, rfl, ?_⟩, B10⟩
              exact fun h => absurd h (by decide)
            | true =>
              by_cases c4 : e < (tk M : Nat)
              · have hEE : E = 10 := by rw [← HE.out]; unfold erT; rw [if_neg (by simp only [Classical.not_not]; exact c1), if_neg (by simp only [Classical.not_not]; exact c2), if_neg (by simp only [Classical.not_not]; exact c3), if_neg (by rw [hkM]; decide), if_neg (by rw [hkW]; decide), if_neg (by rw [hkO]; decide), if_pos c4]
                subst hEE
                clear hkM hkW hkO HE
                go_enter Try.func19, Try.ntmps19
                go_upto_region 1 with fail
                rw [← hW0]
                simp only [← hg1]
                simp only [← hg2]
                clear hW0 hg1 hg2 hsz
                have a3 := hA.c 3 rfl
                go_upto_region 9 with (first
                  | (go_at_call 30; refine (mayopt_any op oc O _ h37.rO on h37.o h37.o9 _ HK.out.2.2).mono ?_; rintro e9 w8 ⟨rfl, b8⟩; have V18 := V17.below b8; have V28 := Vc.below (show Vc w7 g2 X2 from L7) b8; have B8 := bel_call B7 (Nat.le_refl _) b8; have A8 := A7.below b8; clear v0 v1 v2 y0 y1 y2 a0 a1 a2 a5; obtain ⟨v0, v1, v2⟩ := V18.at; obtain ⟨y0, y1, y2⟩ := V28.at; have a2 := A8.c 2 rfl)
                  | (refine wpList_stV (E := eC) rfl 53 (.tmp 3) (.tmp 37) rfl size53 g2 _ V26 rfl X2 rfl rfl ?_; intro w7 L7 k7; have V17 : Vc w7 g1 X1 := Lv.kp V16 k7 hg12; have A7 := A6.kp k7 hga2; have B6 := bel_call B5 (Nat.le_refl _) b6; have B7 := bel_kp B6 k7 hg2w B6.size; have a0 := A7.c 0 rfl; have a1 := A7.c 1 rfl; have a2 := A7.c 2 rfl; have a5 := A7.c 5 rfl; have h37 := h3.below B7; obtain ⟨v0, v1, v2⟩ := V17.at; obtain ⟨y0, y1, y2⟩ := Vc.at (show Vc w7 g2 X2 from L7))
                  | (go_at_call 29; refine (costway_any wp wc W _ h35.rW wn h35.n h35.n9 _ HK.out.2.1).mono ?_; rintro e9 w6 ⟨⟨X2, rfl, hX2⟩, b6⟩; have V16 := Lv.below L5 b6; have V26 := V25.below b6; have A6 := A5.below b6; clear a0 a1 a2 a4)
                  | (refine wpList_stV (E := eC) rfl 53 (.tmp 2) (.tmp 31) rfl size53 g1 _ V14 rfl X1 rfl rfl ?_; intro w5 L5 k5; have V25 := Lv.kp V24 k5 hg12.symm; have A5 := A4.kp k5 hga1; have B5 := bel_kp (bel_call b0 (Nat.le_refl _) b4) k5 hg1w (bel_call b0 (Nat.le_refl _) b4).size; have a0 := A5.c 0 rfl; have a1 := A5.c 1 rfl; have a2 := A5.c 2 rfl; have a4 := A5.c 4 rfl; have h35 := h3.below B5)
                  | (go_at_call 28; refine (of_any mp mc M _ h30.rM mn h30.m h30.m9 _ HK.out.1).mono ?_; rintro e9 w4 ⟨⟨X1, rfl, hX1⟩, b4⟩; have V14 := hV1.below b4; have V24 := hV2.below b4; have A4 := hA.below b4; clear a0 a1 a2)
                  | (go_at_call 27; have _u := mk2; refine (within_any e 1 p _ true d3 he.1 he.2 (by omega) (by omega) (by omega)).mono ?_; rintro e9 wq ⟨rfl, hq⟩; rw [hq]; clear hq wq)
                  | (go_at_call 27; have _u := mk1; refine (within_any p 1 16384 _ true d2 hp.1 hp.2 (by omega) (by omega) (by omega)).mono ?_; rintro e9 wq ⟨rfl, hq⟩; rw [hq]; clear hq wq; have mk2 : True := trivial)
                  | (go_at_call 27; refine (within_any r 0 63 _ true d1 hr.1 hr.2 (by omega) (by omega) (by omega)).mono ?_; rintro e9 wq ⟨rfl, hq⟩; rw [hq]; clear hq wq; have mk1 : True := trivial))
                have hCX : CostN w8 W0.heap.size X1 M := ((((hX1 trivial).kp k5 hg1s).below b6).kp k7 hg2s).below b8
                have hWX : WayN w8 W0.heap.size X2 W := (((hX2 trivial).mono (Nat.le_trans b4.size k5.size)).kp k7 hg2s).below b8
                have q1 := hCX.a
                have q2 := hWX.a
                have x1 : decide (X1.a > e) = true := decide_eq_true (by omega)
                clear q1 q2
                go_upto_region 10 with (first
                  | (fail))
                obtain ⟨WX, hWX0⟩ : ∃ WX : World, WX = _ := ⟨_, rfl⟩
                have VX1 : Vc WX g1 X1 := by rw [hWX0]; exact V18
                have VX2 : Vc WX g2 X2 := by rw [hWX0]; exact V28
                have BX : Below w.heap.size w WX := by rw [hWX0]; exact B8
                rw [← hWX0]
                refine wp_region_held_drew (S := fun w' => w'.heap[g1]? = WX.heap[g1]? ∧ w'.heap[g2]? = WX.heap[g2]?) (by kernel_rfl) ⟨rfl, rfl⟩ (fun hHeld => ?_)
                refine wpAnyH_take (i := 0) (oi := _) (v := ?_) rfl (by kernel_rfl) (by kernel_rfl) (by kernel_rfl) (fun _ _ _ h => h) (Or.inl ⟨by rfl, ?_⟩) hHeld ?_
                rotate_left
                · intro w' hSw
                  obtain ⟨c0, c1, c2⟩ := Vc.at (show Vc w' g1 X1 from hSw.1.trans VX1)
                  (go_simp <;> with_reducible rfl)
                try simp only [Act.put, List.getElem_toArray, List.getElem_cons_zero, List.setIfInBounds_toArray, List.set_cons_zero, List.set_cons_succ]
                refine wpAnyH_take (i := 1) (oi := _) (v := ?_) rfl (by kernel_rfl) (by kernel_rfl) (by kernel_rfl) (fun _ _ _ h => h) (Or.inl ⟨by rfl, ?_⟩) hHeld ?_
                rotate_left
                · intro w' hSw
                  obtain ⟨d0, d1, d2⟩ := Vc.at (show Vc w' g2 X2 from hSw.2.trans VX2)
                  (go_simp <;> with_reducible rfl)
                try simp only [Act.put, List.getElem_toArray, List.getElem_cons_succ, List.getElem_cons_zero, List.setIfInBounds_toArray, List.set_cons_zero, List.set_cons_succ]
                refine wpAnyH_ready (rs := [2]) (by kernel_rfl) (by simp) ?_
                refine AllReadyH.cons (o := _) rfl (fun K hK => ?_) (AllReadyH.nil)
                refine step_stV (E := eC) rfl 53 _ _ rfl size53 g1 _ (Lv.draw VX1) rfl X1 rfl rfl ?_
                intro w9 L9 k9
                have hS9 : w9.heap[g1]? = WX.heap[g1]? ∧ w9.heap[g2]? = WX.heap[g2]? := ⟨L9.trans VX1.symm, k9.block g2 VX2.lt (by intro h; have h := Option.some.inj h; omega)⟩
                refine hK.out _ _ hS9 (fun hHeld => ?_)
                clear hK K
                try simp only [Act.put, List.getElem_toArray, List.getElem_cons_succ, List.getElem_cons_zero]
                refine wpAnyH_ready (rs := [3]) (by kernel_rfl) (by simp) ?_
                refine AllReadyH.cons (o := _) rfl (fun K hK => ?_) (AllReadyH.nil)
                have V92 : Vc w9 g2 X2 := hS9.2.trans VX2
                refine step_stV (E := eC) rfl 53 _ _ rfl size53 g2 _ V92 rfl X2 rfl rfl ?_
                intro w10 L10 k10
                have l9 : WX.heap.size ≤ w9.heap.size := k9.size
                have h1l : g1 < WX.heap.size := VX1.lt
                have hS10 : w10.heap[g1]? = WX.heap[g1]? ∧ w10.heap[g2]? = WX.heap[g2]? := ⟨(k10.block g1 (by omega) (by intro h; have h := Option.some.inj h; omega)).trans hS9.1, L10.trans VX2.symm⟩
                refine hK.out _ _ hS10 (fun hHeld => ?_)
                clear hK K
                try simp only [Act.put, List.getElem_toArray, List.getElem_cons_succ, List.getElem_cons_zero]
                refine wpAnyH_take (i := 4) (oi := _) (v := ?_) rfl (by kernel_rfl) (by kernel_rfl) (by kernel_rfl) (fun _ _ _ h => h) (Or.inl ⟨by rfl, ?_⟩) hHeld ?_
                rotate_left
                · intro w' hSw
                  (go_simp <;> with_reducible rfl)
                try simp only [Act.put, List.getElem_toArray, List.getElem_cons_succ, List.getElem_cons_zero, List.setIfInBounds_toArray, List.set_cons_zero, List.set_cons_succ]
                refine wpAnyH_done (by kernel_rfl) ?_ _
                have e9 := load53 (x := X1) (show Vc w10 g1 X1 from hS10.1.trans VX1)
                have e10 := load53 (x := X2) (show Vc w10 g2 X2 from hS10.2.trans VX2)
                have B9 : Below w.heap.size w w9 := bel_kp BX.drew k9 hg1w (by have := BX.size; exact this)
                have B10 : Below w.heap.size w w10 := bel_kp B9 k10 hg2w B9.size
                clear hHeld
                go_wp2
                refine bodyPost_ret (v := .tuple #[.agg #[.int .i64 X1.a, .int .i64 X1.b, .slice X1.q X1.m X1.d], .agg #[.int .i64 X2.a, .int .i64 X2.b, .slice X2.q X2.m X2.d], .int .i64 10]) (by simp [results, Try.results19, asAddr, e9, e10]) rfl ⟨⟨X1, X2, rfl, ?_⟩, B10⟩
                exact fun h => absurd h (by decide)
              · by_cases c5 : tk M < twk W
                · have hEE : E = 12 := by rw [← HE.out]; unfold erT; rw [if_neg (by simp only [Classical.not_not]; exact c1), if_neg (by simp only [Classical.not_not]; exact c2), if_neg (by simp only [Classical.not_not]; exact c3), if_neg (by rw [hkM]; decide), if_neg (by rw [hkW]; decide), if_neg (by rw [hkO]; decide), if_neg c4, if_pos c5]
                  subst hEE
                  clear hkM hkW hkO HE
                  go_enter Try.func19, Try.ntmps19
                  go_upto_region 1 with fail
                  rw [← hW0]
                  simp only [← hg1]
                  simp only [← hg2]
                  clear hW0 hg1 hg2 hsz
                  have a3 := hA.c 3 rfl
                  go_upto_region 9 with (first
                    | (go_at_call 30; refine (mayopt_any op oc O _ h37.rO on h37.o h37.o9 _ HK.out.2.2).mono ?_; rintro e9 w8 ⟨rfl, b8⟩; have V18 := V17.below b8; have V28 := Vc.below (show Vc w7 g2 X2 from L7) b8; have B8 := bel_call B7 (Nat.le_refl _) b8; have A8 := A7.below b8; clear v0 v1 v2 y0 y1 y2 a0 a1 a2 a5; obtain ⟨v0, v1, v2⟩ := V18.at; obtain ⟨y0, y1, y2⟩ := V28.at; have a2 := A8.c 2 rfl)
                    | (refine wpList_stV (E := eC) rfl 53 (.tmp 3) (.tmp 37) rfl size53 g2 _ V26 rfl X2 rfl rfl ?_; intro w7 L7 k7; have V17 : Vc w7 g1 X1 := Lv.kp V16 k7 hg12; have A7 := A6.kp k7 hga2; have B6 := bel_call B5 (Nat.le_refl _) b6; have B7 := bel_kp B6 k7 hg2w B6.size; have a0 := A7.c 0 rfl; have a1 := A7.c 1 rfl; have a2 := A7.c 2 rfl; have a5 := A7.c 5 rfl; have h37 := h3.below B7; obtain ⟨v0, v1, v2⟩ := V17.at; obtain ⟨y0, y1, y2⟩ := Vc.at (show Vc w7 g2 X2 from L7))
                    | (go_at_call 29; refine (costway_any wp wc W _ h35.rW wn h35.n h35.n9 _ HK.out.2.1).mono ?_; rintro e9 w6 ⟨⟨X2, rfl, hX2⟩, b6⟩; have V16 := Lv.below L5 b6; have V26 := V25.below b6; have A6 := A5.below b6; clear a0 a1 a2 a4)
                    | (refine wpList_stV (E := eC) rfl 53 (.tmp 2) (.tmp 31) rfl size53 g1 _ V14 rfl X1 rfl rfl ?_; intro w5 L5 k5; have V25 := Lv.kp V24 k5 hg12.symm; have A5 := A4.kp k5 hga1; have B5 := bel_kp (bel_call b0 (Nat.le_refl _) b4) k5 hg1w (bel_call b0 (Nat.le_refl _) b4).size; have a0 := A5.c 0 rfl; have a1 := A5.c 1 rfl; have a2 := A5.c 2 rfl; have a4 := A5.c 4 rfl; have h35 := h3.below B5)
                    | (go_at_call 28; refine (of_any mp mc M _ h30.rM mn h30.m h30.m9 _ HK.out.1).mono ?_; rintro e9 w4 ⟨⟨X1, rfl, hX1⟩, b4⟩; have V14 := hV1.below b4; have V24 := hV2.below b4; have A4 := hA.below b4; clear a0 a1 a2)
                    | (go_at_call 27; have _u := mk2; refine (within_any e 1 p _ true d3 he.1 he.2 (by omega) (by omega) (by omega)).mono ?_; rintro e9 wq ⟨rfl, hq⟩; rw [hq]; clear hq wq)
                    | (go_at_call 27; have _u := mk1; refine (within_any p 1 16384 _ true d2 hp.1 hp.2 (by omega) (by omega) (by omega)).mono ?_; rintro e9 wq ⟨rfl, hq⟩; rw [hq]; clear hq wq; have mk2 : True := trivial)
                    | (go_at_call 27; refine (within_any r 0 63 _ true d1 hr.1 hr.2 (by omega) (by omega) (by omega)).mono ?_; rintro e9 wq ⟨rfl, hq⟩; rw [hq]; clear hq wq; have mk1 : True := trivial))
                  have hCX : CostN w8 W0.heap.size X1 M := ((((hX1 trivial).kp k5 hg1s).below b6).kp k7 hg2s).below b8
                  have hWX : WayN w8 W0.heap.size X2 W := (((hX2 trivial).mono (Nat.le_trans b4.size k5.size)).kp k7 hg2s).below b8
                  have q1 := hCX.a
                  have q2 := hWX.a
                  have x1 : decide (X1.a > e) = false := decide_eq_false (by omega)
                  have x2 : decide (X2.a > X1.a) = true := decide_eq_true (by omega)
                  clear q1 q2
                  go_upto_region 12 with (first
                    | (fail))
                  obtain ⟨WX, hWX0⟩ : ∃ WX : World, WX = _ := ⟨_, rfl⟩
                  have VX1 : Vc WX g1 X1 := by rw [hWX0]; exact V18
                  have VX2 : Vc WX g2 X2 := by rw [hWX0]; exact V28
                  have BX : Below w.heap.size w WX := by rw [hWX0]; exact B8
                  rw [← hWX0]
                  refine wp_region_held_drew (S := fun w' => w'.heap[g1]? = WX.heap[g1]? ∧ w'.heap[g2]? = WX.heap[g2]?) (by kernel_rfl) ⟨rfl, rfl⟩ (fun hHeld => ?_)
                  refine wpAnyH_take (i := 0) (oi := _) (v := ?_) rfl (by kernel_rfl) (by kernel_rfl) (by kernel_rfl) (fun _ _ _ h => h) (Or.inl ⟨by rfl, ?_⟩) hHeld ?_
                  rotate_left
                  · intro w' hSw
                    obtain ⟨c0, c1, c2⟩ := Vc.at (show Vc w' g1 X1 from hSw.1.trans VX1)
                    (go_simp <;> with_reducible rfl)
                  try simp only [Act.put, List.getElem_toArray, List.getElem_cons_zero, List.setIfInBounds_toArray, List.set_cons_zero, List.set_cons_succ]
                  refine wpAnyH_take (i := 1) (oi := _) (v := ?_) rfl (by kernel_rfl) (by kernel_rfl) (by kernel_rfl) (fun _ _ _ h => h) (Or.inl ⟨by rfl, ?_⟩) hHeld ?_
                  rotate_left
                  · intro w' hSw
                    obtain ⟨d0, d1, d2⟩ := Vc.at (show Vc w' g2 X2 from hSw.2.trans VX2)
                    (go_simp <;> with_reducible rfl)
                  try simp only [Act.put, List.getElem_toArray, List.getElem_cons_succ, List.getElem_cons_zero, List.setIfInBounds_toArray, List.set_cons_zero, List.set_cons_succ]
                  refine wpAnyH_ready (rs := [2]) (by kernel_rfl) (by simp) ?_
                  refine AllReadyH.cons (o := _) rfl (fun K hK => ?_) (AllReadyH.nil)
                  refine step_stV (E := eC) rfl 53 _ _ rfl size53 g1 _ (Lv.draw VX1) rfl X1 rfl rfl ?_
                  intro w9 L9 k9
                  have hS9 : w9.heap[g1]? = WX.heap[g1]? ∧ w9.heap[g2]? = WX.heap[g2]? := ⟨L9.trans VX1.symm, k9.block g2 VX2.lt (by intro h; have h := Option.some.inj h; omega)⟩
                  refine hK.out _ _ hS9 (fun hHeld => ?_)
                  clear hK K
                  try simp only [Act.put, List.getElem_toArray, List.getElem_cons_succ, List.getElem_cons_zero]
                  refine wpAnyH_ready (rs := [3]) (by kernel_rfl) (by simp) ?_
                  refine AllReadyH.cons (o := _) rfl (fun K hK => ?_) (AllReadyH.nil)
                  have V92 : Vc w9 g2 X2 := hS9.2.trans VX2
                  refine step_stV (E := eC) rfl 53 _ _ rfl size53 g2 _ V92 rfl X2 rfl rfl ?_
                  intro w10 L10 k10
                  have l9 : WX.heap.size ≤ w9.heap.size := k9.size
                  have h1l : g1 < WX.heap.size := VX1.lt
                  have hS10 : w10.heap[g1]? = WX.heap[g1]? ∧ w10.heap[g2]? = WX.heap[g2]? := ⟨(k10.block g1 (by omega) (by intro h; have h := Option.some.inj h; omega)).trans hS9.1, L10.trans VX2.symm⟩
                  refine hK.out _ _ hS10 (fun hHeld => ?_)
                  clear hK K
                  try simp only [Act.put, List.getElem_toArray, List.getElem_cons_succ, List.getElem_cons_zero]
                  refine wpAnyH_take (i := 4) (oi := _) (v := ?_) rfl (by kernel_rfl) (by kernel_rfl) (by kernel_rfl) (fun _ _ _ h => h) (Or.inl ⟨by rfl, ?_⟩) hHeld ?_
                  rotate_left
                  · intro w' hSw
                    (go_simp <;> with_reducible rfl)
                  try simp only [Act.put, List.getElem_toArray, List.getElem_cons_succ, List.getElem_cons_zero, List.setIfInBounds_toArray, List.set_cons_zero, List.set_cons_succ]
                  refine wpAnyH_done (by kernel_rfl) ?_ _
                  have e9 := load53 (x := X1) (show Vc w10 g1 X1 from hS10.1.trans VX1)
                  have e10 := load53 (x := X2) (show Vc w10 g2 X2 from hS10.2.trans VX2)
                  have B9 : Below w.heap.size w w9 := bel_kp BX.drew k9 hg1w (by have := BX.size; exact this)
                  have B10 : Below w.heap.size w w10 := bel_kp B9 k10 hg2w B9.size
                  clear hHeld
                  go_wp2
                  refine bodyPost_ret (v := .tuple #[.agg #[.int .i64 X1.a, .int .i64 X1.b, .slice X1.q X1.m X1.d], .agg #[.int .i64 X2.a, .int .i64 X2.b, .slice X2.q X2.m X2.d], .int .i64 12]) (by simp [results, Try.results19, asAddr, e9, e10]) rfl ⟨⟨X1, X2, rfl, ?_⟩, B10⟩
                  exact fun h => absurd h (by decide)
                · have hEE : E = 0 := by rw [← HE.out]; unfold erT; rw [if_neg (by simp only [Classical.not_not]; exact c1), if_neg (by simp only [Classical.not_not]; exact c2), if_neg (by simp only [Classical.not_not]; exact c3), if_neg (by rw [hkM]; decide), if_neg (by rw [hkW]; decide), if_neg (by rw [hkO]; decide), if_neg c4, if_neg c5]
                  subst hEE
                  clear hkM hkW hkO HE
                  go_enter Try.func19, Try.ntmps19
                  go_upto_region 1 with fail
                  rw [← hW0]
                  simp only [← hg1]
                  simp only [← hg2]
                  clear hW0 hg1 hg2 hsz
                  have a3 := hA.c 3 rfl
                  go_upto_region 9 with (first
                    | (go_at_call 30; refine (mayopt_any op oc O _ h37.rO on h37.o h37.o9 _ HK.out.2.2).mono ?_; rintro e9 w8 ⟨rfl, b8⟩; have V18 := V17.below b8; have V28 := Vc.below (show Vc w7 g2 X2 from L7) b8; have B8 := bel_call B7 (Nat.le_refl _) b8; have A8 := A7.below b8; clear v0 v1 v2 y0 y1 y2 a0 a1 a2 a5; obtain ⟨v0, v1, v2⟩ := V18.at; obtain ⟨y0, y1, y2⟩ := V28.at; have a2 := A8.c 2 rfl)
                    | (refine wpList_stV (E := eC) rfl 53 (.tmp 3) (.tmp 37) rfl size53 g2 _ V26 rfl X2 rfl rfl ?_; intro w7 L7 k7; have V17 : Vc w7 g1 X1 := Lv.kp V16 k7 hg12; have A7 := A6.kp k7 hga2; have B6 := bel_call B5 (Nat.le_refl _) b6; have B7 := bel_kp B6 k7 hg2w B6.size; have a0 := A7.c 0 rfl; have a1 := A7.c 1 rfl; have a2 := A7.c 2 rfl; have a5 := A7.c 5 rfl; have h37 := h3.below B7; obtain ⟨v0, v1, v2⟩ := V17.at; obtain ⟨y0, y1, y2⟩ := Vc.at (show Vc w7 g2 X2 from L7))
                    | (go_at_call 29; refine (costway_any wp wc W _ h35.rW wn h35.n h35.n9 _ HK.out.2.1).mono ?_; rintro e9 w6 ⟨⟨X2, rfl, hX2⟩, b6⟩; have V16 := Lv.below L5 b6; have V26 := V25.below b6; have A6 := A5.below b6; clear a0 a1 a2 a4)
                    | (refine wpList_stV (E := eC) rfl 53 (.tmp 2) (.tmp 31) rfl size53 g1 _ V14 rfl X1 rfl rfl ?_; intro w5 L5 k5; have V25 := Lv.kp V24 k5 hg12.symm; have A5 := A4.kp k5 hga1; have B5 := bel_kp (bel_call b0 (Nat.le_refl _) b4) k5 hg1w (bel_call b0 (Nat.le_refl _) b4).size; have a0 := A5.c 0 rfl; have a1 := A5.c 1 rfl; have a2 := A5.c 2 rfl; have a4 := A5.c 4 rfl; have h35 := h3.below B5)
                    | (go_at_call 28; refine (of_any mp mc M _ h30.rM mn h30.m h30.m9 _ HK.out.1).mono ?_; rintro e9 w4 ⟨⟨X1, rfl, hX1⟩, b4⟩; have V14 := hV1.below b4; have V24 := hV2.below b4; have A4 := hA.below b4; clear a0 a1 a2)
                    | (go_at_call 27; have _u := mk2; refine (within_any e 1 p _ true d3 he.1 he.2 (by omega) (by omega) (by omega)).mono ?_; rintro e9 wq ⟨rfl, hq⟩; rw [hq]; clear hq wq)
                    | (go_at_call 27; have _u := mk1; refine (within_any p 1 16384 _ true d2 hp.1 hp.2 (by omega) (by omega) (by omega)).mono ?_; rintro e9 wq ⟨rfl, hq⟩; rw [hq]; clear hq wq; have mk2 : True := trivial)
                    | (go_at_call 27; refine (within_any r 0 63 _ true d1 hr.1 hr.2 (by omega) (by omega) (by omega)).mono ?_; rintro e9 wq ⟨rfl, hq⟩; rw [hq]; clear hq wq; have mk1 : True := trivial))
                  have hCX : CostN w8 W0.heap.size X1 M := ((((hX1 trivial).kp k5 hg1s).below b6).kp k7 hg2s).below b8
                  have hWX : WayN w8 W0.heap.size X2 W := (((hX2 trivial).mono (Nat.le_trans b4.size k5.size)).kp k7 hg2s).below b8
                  have q1 := hCX.a
                  have q2 := hWX.a
                  have x1 : decide (X1.a > e) = false := decide_eq_false (by omega)
                  have x2 : decide (X2.a > X1.a) = false := decide_eq_false (by omega)
                  clear q1 q2
                  go_upto_region 13 with (first
                    | (fail))
                  obtain ⟨WX, hWX0⟩ : ∃ WX : World, WX = _ := ⟨_, rfl⟩
                  have VX1 : Vc WX g1 X1 := by rw [hWX0]; exact V18
                  have VX2 : Vc WX g2 X2 := by rw [hWX0]; exact V28
                  have BX : Below w.heap.size w WX := by rw [hWX0]; exact B8
                  have hCZ : CostN WX W0.heap.size X1 M := by rw [hWX0]; exact hCX
                  have hWZ : WayN WX W0.heap.size X2 W := by rw [hWX0]; exact hWX
                  rw [← hWX0]
                  refine wp_region_held_drew (S := fun w' => w'.heap[g1]? = WX.heap[g1]? ∧ w'.heap[g2]? = WX.heap[g2]?) (by kernel_rfl) ⟨rfl, rfl⟩ (fun hHeld => ?_)
                  refine wpAnyH_take (i := 0) (oi := _) (v := ?_) rfl (by kernel_rfl) (by kernel_rfl) (by kernel_rfl) (fun _ _ _ h => h) (Or.inl ⟨by rfl, ?_⟩) hHeld ?_
                  rotate_left
                  · intro w' hSw
                    obtain ⟨c0, c1, c2⟩ := Vc.at (show Vc w' g1 X1 from hSw.1.trans VX1)
                    (go_simp <;> with_reducible rfl)
                  try simp only [Act.put, List.getElem_toArray, List.getElem_cons_zero, List.setIfInBounds_toArray, List.set_cons_zero, List.set_cons_succ]
                  refine wpAnyH_take (i := 1) (oi := _) (v := ?_) rfl (by kernel_rfl) (by kernel_rfl) (by kernel_rfl) (fun _ _ _ h => h) (Or.inl ⟨by rfl, ?_⟩) hHeld ?_
                  rotate_left
                  · intro w' hSw
                    obtain ⟨d0, d1, d2⟩ := Vc.at (show Vc w' g2 X2 from hSw.2.trans VX2)
                    (go_simp <;> with_reducible rfl)
                  try simp only [Act.put, List.getElem_toArray, List.getElem_cons_succ, List.getElem_cons_zero, List.setIfInBounds_toArray, List.set_cons_zero, List.set_cons_succ]
                  refine wpAnyH_ready (rs := [2]) (by kernel_rfl) (by simp) ?_
                  refine AllReadyH.cons (o := _) rfl (fun K hK => ?_) (AllReadyH.nil)
                  refine step_stV (E := eC) rfl 53 _ _ rfl size53 g1 _ (Lv.draw VX1) rfl X1 rfl rfl ?_
                  intro w9 L9 k9
                  have hS9 : w9.heap[g1]? = WX.heap[g1]? ∧ w9.heap[g2]? = WX.heap[g2]? := ⟨L9.trans VX1.symm, k9.block g2 VX2.lt (by intro h; have h := Option.some.inj h; omega)⟩
                  refine hK.out _ _ hS9 (fun hHeld => ?_)
                  clear hK K
                  try simp only [Act.put, List.getElem_toArray, List.getElem_cons_succ, List.getElem_cons_zero]
                  refine wpAnyH_ready (rs := [3]) (by kernel_rfl) (by simp) ?_
                  refine AllReadyH.cons (o := _) rfl (fun K hK => ?_) (AllReadyH.nil)
                  have V92 : Vc w9 g2 X2 := hS9.2.trans VX2
                  refine step_stV (E := eC) rfl 53 _ _ rfl size53 g2 _ V92 rfl X2 rfl rfl ?_
                  intro w10 L10 k10
                  have l9 : WX.heap.size ≤ w9.heap.size := k9.size
                  have h1l : g1 < WX.heap.size := VX1.lt
                  have hS10 : w10.heap[g1]? = WX.heap[g1]? ∧ w10.heap[g2]? = WX.heap[g2]? := ⟨(k10.block g1 (by omega) (by intro h; have h := Option.some.inj h; omega)).trans hS9.1, L10.trans VX2.symm⟩
                  refine hK.out _ _ hS10 (fun hHeld => ?_)
                  clear hK K
                  try simp only [Act.put, List.getElem_toArray, List.getElem_cons_succ, List.getElem_cons_zero]
                  refine wpAnyH_take (i := 4) (oi := _) (v := ?_) rfl (by kernel_rfl) (by kernel_rfl) (by kernel_rfl) (fun _ _ _ h => h) (Or.inl ⟨by rfl, ?_⟩) hHeld ?_
                  rotate_left
                  · intro w' hSw
                    (go_simp <;> with_reducible rfl)
                  try simp only [Act.put, List.getElem_toArray, List.getElem_cons_succ, List.getElem_cons_zero, List.setIfInBounds_toArray, List.set_cons_zero, List.set_cons_succ]
                  refine wpAnyH_done (by kernel_rfl) ?_ _
                  have e9 := load53 (x := X1) (show Vc w10 g1 X1 from hS10.1.trans VX1)
                  have e10 := load53 (x := X2) (show Vc w10 g2 X2 from hS10.2.trans VX2)
                  have B9 : Below w.heap.size w w9 := bel_kp BX.drew k9 hg1w (by have := BX.size; exact this)
                  have B10 : Below w.heap.size w w10 := bel_kp B9 k10 hg2w B9.size
                  clear hHeld
                  go_wp2
                  refine bodyPost_ret (v := .tuple #[.agg #[.int .i64 X1.a, .int .i64 X1.b, .slice X1.q X1.m X1.d], .agg #[.int .i64 X2.a, .int .i64 X2.b, .slice X2.q X2.m X2.d], .int .i64 0]) (by simp [results, Try.results19, asAddr, e9, e10]) rfl ⟨⟨X1, X2, rfl, ?_⟩, B10⟩
                  exact fun _ => ⟨(((hCZ.below (Below.refl _ _).drew).kp k9 hg1s).kp k10 hg2s).mono b0.size, (((hWZ.below (Below.refl _ _).drew).kp k9 hg1s).kp k10 hg2s).mono b0.size⟩
      · have d3 : decide ((1 : Int) ≤ e ∧ e ≤ p) = false := decide_eq_false c3
        have hEE : E = 9 := by rw [← HE.out]; unfold erT; rw [if_neg (by simp only [Classical.not_not]; exact c1), if_neg (by simp only [Classical.not_not]; exact c2), if_pos c3]
        subst hEE
        clear HE
        go_enter Try.func19, Try.ntmps19
        go_upto_region 1 with fail
        rw [← hW0]
        simp only [← hg1]
        simp only [← hg2]
        clear hW0 hg1 hg2 hsz
        go_upto_region 4 with (first
          | (go_at_call 27; have _u := mk2; refine (within_any e 1 p _ false d3 he.1 he.2 (by omega) (by omega) (by omega)).mono ?_; rintro e9 wq ⟨rfl, hq⟩; rw [hq]; clear hq wq)
          | (go_at_call 27; have _u := mk1; refine (within_any p 1 16384 _ true d2 hp.1 hp.2 (by omega) (by omega) (by omega)).mono ?_; rintro e9 wq ⟨rfl, hq⟩; rw [hq]; clear hq wq; have mk2 : True := trivial)
          | (go_at_call 27; refine (within_any r 0 63 _ true d1 hr.1 hr.2 (by omega) (by omega) (by omega)).mono ?_; rintro e9 wq ⟨rfl, hq⟩; rw [hq]; clear hq wq; have mk1 : True := trivial))
        obtain ⟨WX, hWX⟩ : ∃ WX : World, WX = _ := ⟨_, rfl⟩
        have VX1 : Vc WX g1 cz0 := by rw [hWX]; exact hV1
        have VX2 : Vc WX g2 cz0 := by rw [hWX]; exact hV2
        have BX : Below w.heap.size w WX := by rw [hWX]; exact b0
        rw [← hWX]
        refine wp_region_held_drew (S := fun w' => w'.heap[g1]? = WX.heap[g1]? ∧ w'.heap[g2]? = WX.heap[g2]?) (by kernel_rfl) ⟨rfl, rfl⟩ (fun hHeld => ?_)
        refine wpAnyH_take (i := 0) (oi := _) (v := ?_) rfl (by kernel_rfl) (by kernel_rfl) (by kernel_rfl) (fun _ _ _ h => h) (Or.inl ⟨by rfl, ?_⟩) hHeld ?_
        rotate_left
        · intro w' hSw
          obtain ⟨c0, c1, c2⟩ := Vc.at (show Vc w' g1 cz0 from hSw.1.trans VX1)
          (go_simp <;> with_reducible rfl)
        try simp only [Act.put, List.getElem_toArray, List.getElem_cons_zero, List.setIfInBounds_toArray, List.set_cons_zero, List.set_cons_succ]
        refine wpAnyH_take (i := 1) (oi := _) (v := ?_) rfl (by kernel_rfl) (by kernel_rfl) (by kernel_rfl) (fun _ _ _ h => h) (Or.inl ⟨by rfl, ?_⟩) hHeld ?_
        rotate_left
        · intro w' hSw
          obtain ⟨d0, d1, d2⟩ := Vc.at (show Vc w' g2 cz0 from hSw.2.trans VX2)
          (go_simp <;> with_reducible rfl)
        try simp only [Act.put, List.getElem_toArray, List.getElem_cons_succ, List.getElem_cons_zero, List.setIfInBounds_toArray, List.set_cons_zero, List.set_cons_succ]
        refine wpAnyH_ready (rs := [2]) (by kernel_rfl) (by simp) ?_
        refine AllReadyH.cons (o := _) rfl (fun K hK => ?_) (AllReadyH.nil)
        refine step_stV (E := eC) rfl 53 _ _ rfl size53 g1 _ (Lv.draw VX1) rfl cz0 rfl rfl ?_
        intro w9 L9 k9
        have hS9 : w9.heap[g1]? = WX.heap[g1]? ∧ w9.heap[g2]? = WX.heap[g2]? := ⟨L9.trans VX1.symm, k9.block g2 VX2.lt (by intro h; have h := Option.some.inj h; omega)⟩
        refine hK.out _ _ hS9 (fun hHeld => ?_)
        clear hK K
        try simp only [Act.put, List.getElem_toArray, List.getElem_cons_succ, List.getElem_cons_zero]
        refine wpAnyH_ready (rs := [3]) (by kernel_rfl) (by simp) ?_
        refine AllReadyH.cons (o := _) rfl (fun K hK => ?_) (AllReadyH.nil)
        have V92 : Vc w9 g2 cz0 := hS9.2.trans VX2
        refine step_stV (E := eC) rfl 53 _ _ rfl size53 g2 _ V92 rfl cz0 rfl rfl ?_
        intro w10 L10 k10
        have l9 : WX.heap.size ≤ w9.heap.size := k9.size
        have h1l : g1 < WX.heap.size := VX1.lt
        have hS10 : w10.heap[g1]? = WX.heap[g1]? ∧ w10.heap[g2]? = WX.heap[g2]? := ⟨(k10.block g1 (by omega) (by intro h; have h := Option.some.inj h; omega)).trans hS9.1, L10.trans VX2.symm⟩
        refine hK.out _ _ hS10 (fun hHeld => ?_)
        clear hK K
        try simp only [Act.put, List.getElem_toArray, List.getElem_cons_succ, List.getElem_cons_zero]
        refine wpAnyH_take (i := 4) (oi := _) (v := ?_) rfl (by kernel_rfl) (by kernel_rfl) (by kernel_rfl) (fun _ _ _ h => h) (Or.inl ⟨by rfl, ?_⟩) hHeld ?_
        rotate_left
        · intro w' hSw
          (go_simp <;> with_reducible rfl)
        try simp only [Act.put, List.getElem_toArray, List.getElem_cons_succ, List.getElem_cons_zero, List.setIfInBounds_toArray, List.set_cons_zero, List.set_cons_succ]
        refine wpAnyH_done (by kernel_rfl) ?_ _
        have e9 := load53 (x := cz0) (show Vc w10 g1 cz0 from hS10.1.trans VX1)
        have e10 := load53 (x := cz0) (show Vc w10 g2 cz0 from hS10.2.trans VX2)
        have B9 : Below w.heap.size w w9 := bel_kp BX.drew k9 hg1w (by have := BX.size; exact this)
        have B10 : Below w.heap.size w w10 := bel_kp B9 k10 hg2w B9.size
        clear hHeld
        go_wp2
        refine bodyPost_ret (v := .tuple #[.agg #[.int .i64 cz0.a, .int .i64 cz0.b, .slice cz0.q cz0.m cz0.d], .agg #[.int .i64 cz0.a, .int .i64 cz0.b, .slice cz0.q cz0.m cz0.d], .int .i64 9]) (by simp [results, Try.results19, asAddr, e9, e10]) rfl ⟨⟨⟨cz0, cz0, rfl⟩, trivial⟩, B10⟩
    · have d2 : decide ((1 : Int) ≤ p ∧ p ≤ 16384) = false := decide_eq_false c2
      have hEE : E = 9 := by rw [← HE.out]; unfold erT; rw [if_neg (by simp only [Classical.not_not]; exact c1), if_pos c2]
      subst hEE
      clear HE
      go_enter Try.func19, Try.ntmps19
      go_upto_region 1 with fail
      rw [← hW0]
      simp only [← hg1]
      simp only [← hg2]
      clear hW0 hg1 hg2 hsz
      go_upto_region 4 with (first
        | (go_at_call 27; have _u := mk1; refine (within_any p 1 16384 _ false d2 hp.1 hp.2 (by omega) (by omega) (by omega)).mono ?_; rintro e9 wq ⟨rfl, hq⟩; rw [hq]; clear hq wq; have mk2 : True := trivial)
        | (go_at_call 27; refine (within_any r 0 63 _ true d1 hr.1 hr.2 (by omega) (by omega) (by omega)).mono ?_; rintro e9 wq ⟨rfl, hq⟩; rw [hq]; clear hq wq; have mk1 : True := trivial))
      obtain ⟨WX, hWX⟩ : ∃ WX : World, WX = _ := ⟨_, rfl⟩
      have VX1 : Vc WX g1 cz0 := by rw [hWX]; exact hV1
      have VX2 : Vc WX g2 cz0 := by rw [hWX]; exact hV2
      have BX : Below w.heap.size w WX := by rw [hWX]; exact b0
      rw [← hWX]
      refine wp_region_held_drew (S := fun w' => w'.heap[g1]? = WX.heap[g1]? ∧ w'.heap[g2]? = WX.heap[g2]?) (by kernel_rfl) ⟨rfl, rfl⟩ (fun hHeld => ?_)
      refine wpAnyH_take (i := 0) (oi := _) (v := ?_) rfl (by kernel_rfl) (by kernel_rfl) (by kernel_rfl) (fun _ _ _ h => h) (Or.inl ⟨by rfl, ?_⟩) hHeld ?_
      rotate_left
      · intro w' hSw
        obtain ⟨c0, c1, c2⟩ := Vc.at (show Vc w' g1 cz0 from hSw.1.trans VX1)
        (go_simp <;> with_reducible rfl)
      try simp only [Act.put, List.getElem_toArray, List.getElem_cons_zero, List.setIfInBounds_toArray, List.set_cons_zero, List.set_cons_succ]
      refine wpAnyH_take (i := 1) (oi := _) (v := ?_) rfl (by kernel_rfl) (by kernel_rfl) (by kernel_rfl) (fun _ _ _ h => h) (Or.inl ⟨by rfl, ?_⟩) hHeld ?_
      rotate_left
      · intro w' hSw
        obtain ⟨d0, d1, d2⟩ := Vc.at (show Vc w' g2 cz0 from hSw.2.trans VX2)
        (go_simp <;> with_reducible rfl)
      try simp only [Act.put, List.getElem_toArray, List.getElem_cons_succ, List.getElem_cons_zero, List.setIfInBounds_toArray, List.set_cons_zero, List.set_cons_succ]
      refine wpAnyH_ready (rs := [2]) (by kernel_rfl) (by simp) ?_
      refine AllReadyH.cons (o := _) rfl (fun K hK => ?_) (AllReadyH.nil)
      refine step_stV (E := eC) rfl 53 _ _ rfl size53 g1 _ (Lv.draw VX1) rfl cz0 rfl rfl ?_
      intro w9 L9 k9
      have hS9 : w9.heap[g1]? = WX.heap[g1]? ∧ w9.heap[g2]? = WX.heap[g2]? := ⟨L9.trans VX1.symm, k9.block g2 VX2.lt (by intro h; have h := Option.some.inj h; omega)⟩
      refine hK.out _ _ hS9 (fun hHeld => ?_)
      clear hK K
      try simp only [Act.put, List.getElem_toArray, List.getElem_cons_succ, List.getElem_cons_zero]
      refine wpAnyH_ready (rs := [3]) (by kernel_rfl) (by simp) ?_
      refine AllReadyH.cons (o := _) rfl (fun K hK => ?_) (AllReadyH.nil)
      have V92 : Vc w9 g2 cz0 := hS9.2.trans VX2
      refine step_stV (E := eC) rfl 53 _ _ rfl size53 g2 _ V92 rfl cz0 rfl rfl ?_
      intro w10 L10 k10
      have l9 : WX.heap.size ≤ w9.heap.size := k9.size
      have h1l : g1 < WX.heap.size := VX1.lt
      have hS10 : w10.heap[g1]? = WX.heap[g1]? ∧ w10.heap[g2]? = WX.heap[g2]? := ⟨(k10.block g1 (by omega) (by intro h; have h := Option.some.inj h; omega)).trans hS9.1, L10.trans VX2.symm⟩
      refine hK.out _ _ hS10 (fun hHeld => ?_)
      clear hK K
      try simp only [Act.put, List.getElem_toArray, List.getElem_cons_succ, List.getElem_cons_zero]
      refine wpAnyH_take (i := 4) (oi := _) (v := ?_) rfl (by kernel_rfl) (by kernel_rfl) (by kernel_rfl) (fun _ _ _ h => h) (Or.inl ⟨by rfl, ?_⟩) hHeld ?_
      rotate_left
      · intro w' hSw
        (go_simp <;> with_reducible rfl)
      try simp only [Act.put, List.getElem_toArray, List.getElem_cons_succ, List.getElem_cons_zero, List.setIfInBounds_toArray, List.set_cons_zero, List.set_cons_succ]
      refine wpAnyH_done (by kernel_rfl) ?_ _
      have e9 := load53 (x := cz0) (show Vc w10 g1 cz0 from hS10.1.trans VX1)
      have e10 := load53 (x := cz0) (show Vc w10 g2 cz0 from hS10.2.trans VX2)
      have B9 : Below w.heap.size w w9 := bel_kp BX.drew k9 hg1w (by have := BX.size; exact this)
      have B10 : Below w.heap.size w w10 := bel_kp B9 k10 hg2w B9.size
      clear hHeld
      go_wp2
      refine bodyPost_ret (v := .tuple #[.agg #[.int .i64 cz0.a, .int .i64 cz0.b, .slice cz0.q cz0.m cz0.d], .agg #[.int .i64 cz0.a, .int .i64 cz0.b, .slice cz0.q cz0.m cz0.d], .int .i64 9]) (by simp [results, Try.results19, asAddr, e9, e10]) rfl ⟨⟨⟨cz0, cz0, rfl⟩, trivial⟩, B10⟩
  · have d1 : decide ((0 : Int) ≤ r ∧ r ≤ 63) = false := decide_eq_false c1
    have hEE : E = 1 := by rw [← HE.out]; unfold erT; rw [if_pos c1]
    subst hEE
    clear HE
    go_enter Try.func19, Try.ntmps19
    go_upto_region 1 with fail
    rw [← hW0]
    simp only [← hg1]
    simp only [← hg2]
    clear hW0 hg1 hg2 hsz
    go_upto_region 2 with (first
      | (go_at_call 27; refine (within_any r 0 63 _ false d1 hr.1 hr.2 (by omega) (by omega) (by omega)).mono ?_; rintro e9 wq ⟨rfl, hq⟩; rw [hq]; clear hq wq; have mk1 : True := trivial))
    obtain ⟨WX, hWX⟩ : ∃ WX : World, WX = _ := ⟨_, rfl⟩
    have VX1 : Vc WX g1 cz0 := by rw [hWX]; exact hV1
    have VX2 : Vc WX g2 cz0 := by rw [hWX]; exact hV2
    have BX : Below w.heap.size w WX := by rw [hWX]; exact b0
    rw [← hWX]
    refine wp_region_held_drew (S := fun w' => w'.heap[g1]? = WX.heap[g1]? ∧ w'.heap[g2]? = WX.heap[g2]?) (by kernel_rfl) ⟨rfl, rfl⟩ (fun hHeld => ?_)
    refine wpAnyH_take (i := 0) (oi := _) (v := ?_) rfl (by kernel_rfl) (by kernel_rfl) (by kernel_rfl) (fun _ _ _ h => h) (Or.inl ⟨by rfl, ?_⟩) hHeld ?_
    rotate_left
    · intro w' hSw
      obtain ⟨c0, c1, c2⟩ := Vc.at (show Vc w' g1 cz0 from hSw.1.trans VX1)
      (go_simp <;> with_reducible rfl)
    try simp only [Act.put, List.getElem_toArray, List.getElem_cons_zero, List.setIfInBounds_toArray, List.set_cons_zero, List.set_cons_succ]
    refine wpAnyH_take (i := 1) (oi := _) (v := ?_) rfl (by kernel_rfl) (by kernel_rfl) (by kernel_rfl) (fun _ _ _ h => h) (Or.inl ⟨by rfl, ?_⟩) hHeld ?_
    rotate_left
    · intro w' hSw
      obtain ⟨d0, d1, d2⟩ := Vc.at (show Vc w' g2 cz0 from hSw.2.trans VX2)
      (go_simp <;> with_reducible rfl)
    try simp only [Act.put, List.getElem_toArray, List.getElem_cons_succ, List.getElem_cons_zero, List.setIfInBounds_toArray, List.set_cons_zero, List.set_cons_succ]
    refine wpAnyH_ready (rs := [2]) (by kernel_rfl) (by simp) ?_
    refine AllReadyH.cons (o := _) rfl (fun K hK => ?_) (AllReadyH.nil)
    refine step_stV (E := eC) rfl 53 _ _ rfl size53 g1 _ (Lv.draw VX1) rfl cz0 rfl rfl ?_
    intro w9 L9 k9
    have hS9 : w9.heap[g1]? = WX.heap[g1]? ∧ w9.heap[g2]? = WX.heap[g2]? := ⟨L9.trans VX1.symm, k9.block g2 VX2.lt (by intro h; have h := Option.some.inj h; omega)⟩
    refine hK.out _ _ hS9 (fun hHeld => ?_)
    clear hK K
    try simp only [Act.put, List.getElem_toArray, List.getElem_cons_succ, List.getElem_cons_zero]
    refine wpAnyH_ready (rs := [3]) (by kernel_rfl) (by simp) ?_
    refine AllReadyH.cons (o := _) rfl (fun K hK => ?_) (AllReadyH.nil)
    have V92 : Vc w9 g2 cz0 := hS9.2.trans VX2
    refine step_stV (E := eC) rfl 53 _ _ rfl size53 g2 _ V92 rfl cz0 rfl rfl ?_
    intro w10 L10 k10
    have l9 : WX.heap.size ≤ w9.heap.size := k9.size
    have h1l : g1 < WX.heap.size := VX1.lt
    have hS10 : w10.heap[g1]? = WX.heap[g1]? ∧ w10.heap[g2]? = WX.heap[g2]? := ⟨(k10.block g1 (by omega) (by intro h; have h := Option.some.inj h; omega)).trans hS9.1, L10.trans VX2.symm⟩
    refine hK.out _ _ hS10 (fun hHeld => ?_)
    clear hK K
    try simp only [Act.put, List.getElem_toArray, List.getElem_cons_succ, List.getElem_cons_zero]
    refine wpAnyH_take (i := 4) (oi := _) (v := ?_) rfl (by kernel_rfl) (by kernel_rfl) (by kernel_rfl) (fun _ _ _ h => h) (Or.inl ⟨by rfl, ?_⟩) hHeld ?_
    rotate_left
    · intro w' hSw
      (go_simp <;> with_reducible rfl)
    try simp only [Act.put, List.getElem_toArray, List.getElem_cons_succ, List.getElem_cons_zero, List.setIfInBounds_toArray, List.set_cons_zero, List.set_cons_succ]
    refine wpAnyH_done (by kernel_rfl) ?_ _
    have e9 := load53 (x := cz0) (show Vc w10 g1 cz0 from hS10.1.trans VX1)
    have e10 := load53 (x := cz0) (show Vc w10 g2 cz0 from hS10.2.trans VX2)
    have B9 : Below w.heap.size w w9 := bel_kp BX.drew k9 hg1w (by have := BX.size; exact this)
    have B10 : Below w.heap.size w w10 := bel_kp B9 k10 hg2w B9.size
    clear hHeld
    go_wp2
    refine bodyPost_ret (v := .tuple #[.agg #[.int .i64 cz0.a, .int .i64 cz0.b, .slice cz0.q cz0.m cz0.d], .agg #[.int .i64 cz0.a, .int .i64 cz0.b, .slice cz0.q cz0.m cz0.d], .int .i64 1]) (by simp [results, Try.results19, asAddr, e9, e10]) rfl ⟨⟨⟨cz0, cz0, rfl⟩, trivial⟩, B10⟩
end Go.Proofs.Ytonholadabebbaa
