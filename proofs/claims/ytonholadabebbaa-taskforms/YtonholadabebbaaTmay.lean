/-
  May and Costs of package task.
-/
import Derived.Test.YtonholadabebbaaTrec2
import Derived.Deep.Cut
import Derived.Deep.CutRange
namespace Go.Proofs.Ytonholadabebbaa
open Go.ChangeShapes Go.WideShapes Go.ChangeAt Go.RowKit
attribute [local go_sem ↓] Go.wp_at_zero Go.wp_at_succ

def cosT (E : Int) (M : List In) : Int := if E = 0 then (tk M : Nat) else 0
def losT (E : Int) (M W : List In) : Int := if E = 0 then (if W.length = 0 then ((lgs M M.length : Nat) : Int) else ((tk W : Nat) : Int)) else 0
def spaT (E : Int) (M W : List In) : List (Int × Int) := if E = 0 then spL M M.length ++ tws W else []
theorem er0 {r p e : Int} {M W O : List In} (h : erT r p e M W O = 0) : (0 ≤ r ∧ r ≤ 63) ∧ (1 ≤ p ∧ p ≤ 16384) ∧ (1 ≤ e ∧ e ≤ p) ∧ okB M = true ∧ wyB W = true ∧ optB O = true ∧ ((tk M : Nat) : Int) ≤ e ∧ twk W ≤ tk M := by
  unfold erT at h
  by_cases c1 : 0 ≤ r ∧ r ≤ 63
  · rw [if_neg (by simp only [Classical.not_not]; exact c1)] at h
    by_cases c2 : 1 ≤ p ∧ p ≤ 16384
    · rw [if_neg (by simp only [Classical.not_not]; exact c2)] at h
      by_cases c3 : 1 ≤ e ∧ e ≤ p
      · rw [if_neg (by simp only [Classical.not_not]; exact c3)] at h
        cases k1 : okB M with
        | false => rw [if_pos k1] at h; exact absurd h (by decide)
        | true =>
          rw [if_neg (by simp [k1])] at h
          cases k2 : wyB W with
          | false => rw [if_pos k2] at h; exact absurd h (by decide)
          | true =>
            rw [if_neg (by simp [k2])] at h
            cases k3 : optB O with
            | false => rw [if_pos k3] at h; exact absurd h (by decide)
            | true =>
              rw [if_neg (by simp [k3])] at h
              by_cases c4 : e < (tk M : Nat)
              · rw [if_pos c4] at h; exact absurd h (by decide)
              · rw [if_neg c4] at h
                by_cases c5 : tk M < twk W
                · rw [if_pos c5] at h; exact absurd h (by decide)
                · exact ⟨c1, c2, c3, rfl, rfl, rfl, by omega, by omega⟩
      · rw [if_pos c3] at h; exact absurd h (by decide)
    · rw [if_pos c2] at h; exact absurd h (by decide)
  · rw [if_pos c1] at h; exact absurd h (by decide)
theorem ok_le {l : List In} (h : okB l = true) : l.length ≤ 24 := (prg_of h).le.2
theorem tws_le {l : List In} (h : wyB l = true) : (tws l).length ≤ 24 := by
  unfold tws
  by_cases h0 : l.length = 0
  · rw [if_pos h0]; exact Nat.zero_le _
  · rw [if_neg h0]
    unfold wyB at h
    have h1 : okB l = true := by simpa [h0] using h
    exact Nat.le_trans (spL_len l l.length) (ok_le h1)
theorem spa_len {M W : List In} (k1 : okB M = true) (k2 : wyB W = true) : (spL M M.length).length + (tws W).length ≤ 48 := by
  have h1 := Nat.le_trans (spL_len M M.length) (ok_le k1)
  have h2 := tws_le k2
  omega
set_option maxHeartbeats 2000000 in
theorem tmay_any (r p e : Int) (mp : Option Addr) (mn mc : Nat) (wp : Option Addr) (wn wc : Nat) (op : Option Addr) (on oc : Nat) (M W O : List In) (w : World) (h3 : Tk3 w mp mn mc wp wn wc op on oc M W O) (hr : I64 r) (hp : I64 p) (he : I64 e) (E : Int) (hE : erT r p e M W O = E) :
    Calls Try.prog 13 #[.agg #[.int .i64 r, .int .i64 p, .int .i64 e, .slice mp mn mc, .slice wp wn wc, .slice op on oc]] w fun e9 w' => e9 = .returned (.int .i64 E) ∧ Below w.heap.size w w' := by
  have s1 := bel_self w (.cells #[.int .i64 r, .int .i64 p, .int .i64 e, .slice mp mn mc, .slice wp wn wc, .slice op on oc] 24)
  have h31 := h3.below s1
  have hk := reckon_any r p e mp mn mc wp wn wc op on oc M W O _ h31 hr hp he E hE
  clear hE h31 h3
  have hA0 := Lv.new w #[.int .i64 r, .int .i64 p, .int .i64 e, .slice mp mn mc, .slice wp wn wc, .slice op on oc] 24
  have a0 := hA0.c 0 rfl
  have a1 := hA0.c 1 rfl
  have a2 := hA0.c 2 rfl
  have a3 := hA0.c 3 rfl
  have a4 := hA0.c 4 rfl
  have a5 := hA0.c 5 rfl
  go_enter Try.func13, Try.ntmps13
  go_wp2_with (go_at_call 19; refine hk.mono ?_; rintro e9 w2 ⟨⟨X1, X2, rfl, HX⟩, b2⟩)
  go_ret
  exact ⟨rfl, ((bel_call s1 (Nat.le_refl _) b2).alloc (bel_call s1 (Nat.le_refl _) b2).size _).alloc (by have := (bel_call s1 (Nat.le_refl _) b2).size; simp; omega) _⟩
set_option maxRecDepth 20000 in
set_option maxHeartbeats 4000000 in
theorem costs_any (r p e : Int) (mp : Option Addr) (mn mc : Nat) (wp : Option Addr) (wn wc : Nat) (op : Option Addr) (on oc : Nat) (M W O : List In) (w : World) (h3 : Tk3 w mp mn mc wp wn wc op on oc M W O) (hr : I64 r) (hp : I64 p) (he : I64 e) (E : Int) (hE : erT r p e M W O = E) (A L : Int) (hA : cosT E M = A) (hL : losT E M W = L) (m : Nat) (hm : (spaT E M W).length = m) :
    Calls Try.prog 11 #[.agg #[.int .i64 r, .int .i64 p, .int .i64 e, .slice mp mn mc, .slice wp wn wc, .slice op on oc]] w fun e9 w' => (∃ q d, e9 = .returned (.tuple #[.int .i64 A, .int .i64 L, .slice q m d]) ∧ Own eSp w' w.heap.size 39 q d (spaT E M W)) ∧ Below w.heap.size w w' := by
  have s1 := bel_self w (.cells #[.int .i64 r, .int .i64 p, .int .i64 e, .slice mp mn mc, .slice wp wn wc, .slice op on oc] 24)
  have h31 := h3.below s1
  have hk := reckon_any r p e mp mn mc wp wn wc op on oc M W O _ h31 hr hp he E hE
  by_cases h0 : E = 0
  · subst h0
    obtain ⟨_, _, _, k1, k2, _, _, _⟩ := er0 hE
    have HWN : Hid (W.length = wn) := h3.n
    have l48 := spa_len k1 k2
    have hS : spaT 0 M W = spL M M.length ++ tws W := if_pos rfl
    rw [hS] at hm ⊢
    rw [List.length_append] at hm
    have hA : ((tk M : Nat) : Int) = A := hA
    clear hE h31 h3 hS k1 k2
    have hA0 := Lv.new w #[.int .i64 r, .int .i64 p, .int .i64 e, .slice mp mn mc, .slice wp wn wc, .slice op on oc] 24
    have a0 := hA0.c 0 rfl
    have a1 := hA0.c 1 rfl
    have a2 := hA0.c 2 rfl
    have a3 := hA0.c 3 rfl
    have a4 := hA0.c 4 rfl
    have a5 := hA0.c 5 rfl
    by_cases hw0 : wn = 0
    · have hL : ((lgs M M.length : Nat) : Int) = L := by rw [← hL]; unfold losT; rw [if_pos rfl, if_pos (HWN.out.trans hw0)]
      have HB : Hid (decide (0 < wn) = false) := by show _ = _; simp; omega
      clear hw0
      go_enter Try.func11, Try.ntmps11
      go_upto_region 7 with (first
        | (go_at_call 20; refine (isthere_any wp wn wc _ false HB.out).mono ?_; rintro e9 w5 ⟨rfl, hq⟩; rw [hq]; clear hq w5)
        | (go_at_call 19; refine hk.mono ?_; rintro e9 w2 ⟨⟨X1, X2, rfl, HX⟩, b2⟩; have V1 : Vc ((w2.alloc (.cells #[.int .i64 X1.a, .int .i64 X1.b, .slice X1.q X1.m X1.d] 53)).alloc (.cells #[.int .i64 X2.a, .int .i64 X2.b, .slice X2.q X2.m X2.d] 53)) w2.heap.size X1 := (Vc.new w2 X1).below (bel_self _ _); have V2 : Vc ((w2.alloc (.cells #[.int .i64 X1.a, .int .i64 X1.b, .slice X1.q X1.m X1.d] 53)).alloc (.cells #[.int .i64 X2.a, .int .i64 X2.b, .slice X2.q X2.m X2.d] 53)) (w2.heap.size + 1) X2 := heap_at (by simp); have A2 : Lv ((w2.alloc (.cells #[.int .i64 X1.a, .int .i64 X1.b, .slice X1.q X1.m X1.d] 53)).alloc (.cells #[.int .i64 X2.a, .int .i64 X2.b, .slice X2.q X2.m X2.d] 53)) w.heap.size #[.int .i64 r, .int .i64 p, .int .i64 e, .slice mp mn mc, .slice wp wn wc, .slice op on oc] 24 := (((Lv.new w _ _).below b2).below (bel_self _ _)).below (bel_self _ _); clear a0 a1 a2 a3 a4 a5; have a4 := A2.c 4 rfl; obtain ⟨c0, c1, c2⟩ := V1.at; obtain ⟨d0, d1, d2⟩ := V2.at))
      obtain ⟨hc, hw⟩ := HX.out trivial
      have e1 : X1.a = A := hc.a.trans hA
      have e2 : X1.b = L := hc.b.trans hL
      have BX : Below w.heap.size w ((w2.alloc (.cells #[.int .i64 X1.a, .int .i64 X1.b, .slice X1.q X1.m X1.d] 53)).alloc (.cells #[.int .i64 X2.a, .int .i64 X2.b, .slice X2.q X2.m X2.d] 53)) := ((bel_call s1 (Nat.le_refl _) b2).alloc (bel_call s1 (Nat.le_refl _) b2).size _).alloc (by have := (bel_call s1 (Nat.le_refl _) b2).size; simp; omega) _
      have s2 : Below w2.heap.size w2 ((w2.alloc (.cells #[.int .i64 X1.a, .int .i64 X1.b, .slice X1.q X1.m X1.d] 53)).alloc (.cells #[.int .i64 X2.a, .int .i64 X2.b, .slice X2.q X2.m X2.d] 53)) := (bel_self _ _).alloc (by simp) _
      have o1 := own_below hc.o s2
      have o2 := own_below hw.o s2
      have l1 := hc.m.symm
      have l2 := hw.m.symm
      have l9 : X1.m + X2.m ≤ 1000 := by rw [hc.m, hw.m]; omega
      have l3 : X1.m + X2.m = m := by rw [hc.m, hw.m]; exact hm
      obtain ⟨WX, hWX⟩ : ∃ WX, WX = (w2.alloc (.cells #[.int .i64 X1.a, .int .i64 X1.b, .slice X1.q X1.m X1.d] 53)).alloc (.cells #[.int .i64 X2.a, .int .i64 X2.b, .slice X2.q X2.m X2.d] 53) := ⟨_, rfl⟩
      rw [← hWX] at V1 V2 BX o1 o2 ⊢
      have hV1 := V1
      have hV2 := V2
      clear hWX s2 A2 a4 c0 c1 c2 d0 d1 d2 HX hc hw V1 V2 hA hL hm
      refine wp_region_held_drew (S := fun w' => Below WX.heap.size WX w') (by kernel_rfl) (Below.refl _ _).drew (fun hHeld => ?_)
      refine wpAnyH_take (i := 0) (oi := _) (v := ?_) rfl (by kernel_rfl) (by kernel_rfl) (by kernel_rfl) (fun _ _ _ h => h) (Or.inl ⟨by rfl, ?_⟩) hHeld ?_
      rotate_left
      · intro w' hSw
        (go_simp <;> with_reducible rfl)
      try simp only [Act.put, List.getElem_toArray, List.getElem_cons_zero, List.setIfInBounds_toArray, List.set_cons_zero, List.set_cons_succ]
      refine wpAnyH_take (i := 1) (oi := _) (v := ?_) rfl (by kernel_rfl) (by kernel_rfl) (by kernel_rfl) (fun _ _ _ h => h) (Or.inl ⟨by rfl, ?_⟩) hHeld ?_
      rotate_left
      · intro w' hSw
        obtain ⟨c0, c1, c2⟩ := (hV1.below hSw).at
        obtain ⟨d0, d1, d2⟩ := (hV2.below hSw).at
        (go_simp <;> with_reducible rfl)
      try simp only [Act.put, List.getElem_toArray, List.getElem_cons_succ, List.getElem_cons_zero, List.setIfInBounds_toArray, List.set_cons_zero, List.set_cons_succ]
      refine wpAnyH_take (i := 2) (oi := _) (v := ?_) rfl (by kernel_rfl) (by kernel_rfl) (by kernel_rfl) (fun _ _ _ h => h) (Or.inl ⟨by rfl, ?_⟩) hHeld ?_
      rotate_left
      · intro w' hSw
        (go_simp <;> with_reducible rfl)
      try simp only [Act.put, List.getElem_toArray, List.getElem_cons_succ, List.getElem_cons_zero, List.setIfInBounds_toArray, List.set_cons_zero, List.set_cons_succ]
      refine wpAnyH_take (i := 3) (oi := _) (v := ?_) rfl (by kernel_rfl) (by kernel_rfl) (by kernel_rfl) (fun _ _ _ h => h) (Or.inl ⟨by rfl, ?_⟩) hHeld ?_
      rotate_left
      · intro w' hSw
        (go_simp <;> with_reducible rfl)
      try simp only [Act.put, List.getElem_toArray, List.getElem_cons_succ, List.getElem_cons_zero, List.setIfInBounds_toArray, List.set_cons_zero, List.set_cons_succ]
      refine wpAnyH_take (i := 4) (oi := _) (v := ?_) rfl (by kernel_rfl) (by kernel_rfl) (by kernel_rfl) (fun _ _ _ h => h) (Or.inl ⟨by rfl, ?_⟩) hHeld ?_
      rotate_left
      · intro w' hSw
        obtain ⟨c0, c1, c2⟩ := (hV1.below hSw).at
        obtain ⟨d0, d1, d2⟩ := (hV2.below hSw).at
        (go_simp <;> with_reducible rfl)
      try simp only [Act.put, List.getElem_toArray, List.getElem_cons_succ, List.getElem_cons_zero, List.setIfInBounds_toArray, List.set_cons_zero, List.set_cons_succ]
      refine wpAnyH_take (i := 5) (oi := _) (v := ?_) rfl (by kernel_rfl) (by kernel_rfl) (by kernel_rfl) (fun _ _ _ h => h) (Or.inl ⟨by rfl, ?_⟩) hHeld ?_
      rotate_left
      · intro w' hSw
        (go_simp <;> with_reducible rfl)
      try simp only [Act.put, List.getElem_toArray, List.getElem_cons_succ, List.getElem_cons_zero, List.setIfInBounds_toArray, List.set_cons_zero, List.set_cons_succ]
      refine wpAnyH_take (i := 6) (oi := _) (v := ?_) rfl (by kernel_rfl) (by kernel_rfl) (by kernel_rfl) (fun _ _ _ h => h) (Or.inl ⟨by rfl, ?_⟩) hHeld ?_
      rotate_left
      · intro w' hSw
        obtain ⟨c0, c1, c2⟩ := (hV1.below hSw).at
        obtain ⟨d0, d1, d2⟩ := (hV2.below hSw).at
        (go_simp <;> with_reducible rfl)
      try simp only [Act.put, List.getElem_toArray, List.getElem_cons_succ, List.getElem_cons_zero, List.setIfInBounds_toArray, List.set_cons_zero, List.set_cons_succ]
      refine wpAnyH_ready (rs := [7]) (by kernel_rfl) (by simp) ?_
      refine AllReadyH.cons (o := _) rfl (fun K hK => ?_) (AllReadyH.nil)
      go_simp
      have bA : Below WX.heap.size WX (WX.alloc (.cells #[.slice X1.q X1.m X1.d, .slice X2.q X2.m X2.d] 33)).drew := (bel_self _ _).drew
      have fA : Rd eS (WX.alloc (.cells #[.slice X1.q X1.m X1.d, .slice X2.q X2.m X2.d] 33)).drew (some ⟨WX.heap.size, 0, none⟩) 2 [(X1.q, X1.m, X1.d), (X2.q, X2.m, X2.d)] := (rd_block (E := eS) (heap_alloc_new WX (.cells #[.slice X1.q X1.m X1.d, .slice X2.q X2.m X2.d] 33)) 2 rfl rfl).below (Below.refl _ _).drew
      refine hK.out _ _ bA (fun hHeld => ?_)
      clear hK K
      obtain ⟨wA, hwA⟩ : ∃ wA, wA = (WX.alloc (.cells #[.slice X1.q X1.m X1.d, .slice X2.q X2.m X2.d] 33)).drew := ⟨_, rfl⟩
      rw [← hwA] at bA fA hHeld ⊢
      clear hwA
      try simp only [Act.put, List.getElem_toArray, List.getElem_cons_succ, List.getElem_cons_zero, List.setIfInBounds_toArray, List.set_cons_zero, List.set_cons_succ]
      refine wpAnyH_ready (rs := [8]) (by kernel_rfl) (by simp) ?_
      refine AllReadyH.cons (o := _) rfl (fun K hK => ?_) (AllReadyH.nil)
      go_simp
      go_at_call 21; refine (concat_any _ _ X1.q X1.d X1.m X2.q X2.d X2.m (spL M M.length) (tws W) _ fA ((own_rd o1).below bA) ((own_rd o2).below bA) l1 l2 l9 m l3).mono ?_
      rintro e9 w3 ⟨q, d, rfl, o3, b3⟩
      have B3 : Below WX.heap.size WX w3 := bel_call bA (Nat.le_refl _) b3
      refine hK.out _ _ B3 (fun hHeld => ?_)
      clear hK K
      try simp only [Act.put, List.getElem_toArray, List.getElem_cons_succ, List.getElem_cons_zero, List.setIfInBounds_toArray, List.set_cons_zero, List.set_cons_succ]
      refine wpAnyH_take (i := 9) (oi := _) (v := ?_) rfl (by kernel_rfl) (by kernel_rfl) (by kernel_rfl) (fun _ _ _ h => h) (Or.inl ⟨by rfl, ?_⟩) hHeld ?_
      rotate_left
      · intro w' hSw
        (go_simp <;> with_reducible rfl)
      try simp only [Act.put, List.getElem_toArray, List.getElem_cons_succ, List.getElem_cons_zero, List.setIfInBounds_toArray, List.set_cons_zero, List.set_cons_succ]
      refine wpAnyH_take (i := 10) (oi := _) (v := ?_) rfl (by kernel_rfl) (by kernel_rfl) (by kernel_rfl) (fun _ _ _ h => h) (Or.inl ⟨by rfl, ?_⟩) hHeld ?_
      rotate_left
      · intro w' hSw
        (go_simp <;> with_reducible rfl)
      try simp only [Act.put, List.getElem_toArray, List.getElem_cons_succ, List.getElem_cons_zero, List.setIfInBounds_toArray, List.set_cons_zero, List.set_cons_succ]
      refine wpAnyH_take (i := 11) (oi := _) (v := ?_) rfl (by kernel_rfl) (by kernel_rfl) (by kernel_rfl) (fun _ _ _ h => h) (Or.inl ⟨by rfl, ?_⟩) hHeld ?_
      rotate_left
      · intro w' hSw
        (go_simp <;> with_reducible rfl)
      try simp only [Act.put, List.getElem_toArray, List.getElem_cons_succ, List.getElem_cons_zero, List.setIfInBounds_toArray, List.set_cons_zero, List.set_cons_succ]
      refine wpAnyH_done (by kernel_rfl) ?_ _
      go_wp2
      refine bodyPost_ret (v := .tuple #[.int .i64 A, .int .i64 L, .slice q m d]) (by simp [results, Try.results11]) rfl ⟨⟨q, d, rfl, own_mono o3 (Nat.le_trans BX.size bA.size)⟩, bel_call BX (Nat.le_refl _) B3⟩
    · have hL : ((tk W : Nat) : Int) = L := by rw [← hL]; unfold losT; rw [if_pos rfl, if_neg (by rw [HWN.out]; exact hw0)]
      have hT : twk W = tk W := by unfold twk; rw [if_neg (by rw [HWN.out]; exact hw0)]
      have HB : Hid (decide (0 < wn) = true) := by show _ = _; simp; omega
      clear hw0
      go_enter Try.func11, Try.ntmps11
      go_upto_region 7 with (first
        | (go_at_call 20; refine (isthere_any wp wn wc _ true HB.out).mono ?_; rintro e9 w5 ⟨rfl, hq⟩; rw [hq]; clear hq w5)
        | (go_at_call 19; refine hk.mono ?_; rintro e9 w2 ⟨⟨X1, X2, rfl, HX⟩, b2⟩; have V1 : Vc ((w2.alloc (.cells #[.int .i64 X1.a, .int .i64 X1.b, .slice X1.q X1.m X1.d] 53)).alloc (.cells #[.int .i64 X2.a, .int .i64 X2.b, .slice X2.q X2.m X2.d] 53)) w2.heap.size X1 := (Vc.new w2 X1).below (bel_self _ _); have V2 : Vc ((w2.alloc (.cells #[.int .i64 X1.a, .int .i64 X1.b, .slice X1.q X1.m X1.d] 53)).alloc (.cells #[.int .i64 X2.a, .int .i64 X2.b, .slice X2.q X2.m X2.d] 53)) (w2.heap.size + 1) X2 := heap_at (by simp); have A2 : Lv ((w2.alloc (.cells #[.int .i64 X1.a, .int .i64 X1.b, .slice X1.q X1.m X1.d] 53)).alloc (.cells #[.int .i64 X2.a, .int .i64 X2.b, .slice X2.q X2.m X2.d] 53)) w.heap.size #[.int .i64 r, .int .i64 p, .int .i64 e, .slice mp mn mc, .slice wp wn wc, .slice op on oc] 24 := (((Lv.new w _ _).below b2).below (bel_self _ _)).below (bel_self _ _); clear a0 a1 a2 a3 a4 a5; have a4 := A2.c 4 rfl; obtain ⟨c0, c1, c2⟩ := V1.at; obtain ⟨d0, d1, d2⟩ := V2.at))
      obtain ⟨hc, hw⟩ := HX.out trivial
      have e1 : X1.a = A := hc.a.trans hA
      have e2 : X2.a = L := hw.a.trans (by rw [hT]; exact hL)
      have BX : Below w.heap.size w ((w2.alloc (.cells #[.int .i64 X1.a, .int .i64 X1.b, .slice X1.q X1.m X1.d] 53)).alloc (.cells #[.int .i64 X2.a, .int .i64 X2.b, .slice X2.q X2.m X2.d] 53)) := ((bel_call s1 (Nat.le_refl _) b2).alloc (bel_call s1 (Nat.le_refl _) b2).size _).alloc (by have := (bel_call s1 (Nat.le_refl _) b2).size; simp; omega) _
      have s2 : Below w2.heap.size w2 ((w2.alloc (.cells #[.int .i64 X1.a, .int .i64 X1.b, .slice X1.q X1.m X1.d] 53)).alloc (.cells #[.int .i64 X2.a, .int .i64 X2.b, .slice X2.q X2.m X2.d] 53)) := (bel_self _ _).alloc (by simp) _
      have o1 := own_below hc.o s2
      have o2 := own_below hw.o s2
      have l1 := hc.m.symm
      have l2 := hw.m.symm
      have l9 : X1.m + X2.m ≤ 1000 := by rw [hc.m, hw.m]; omega
      have l3 : X1.m + X2.m = m := by rw [hc.m, hw.m]; exact hm
      obtain ⟨WX, hWX⟩ : ∃ WX, WX = (w2.alloc (.cells #[.int .i64 X1.a, .int .i64 X1.b, .slice X1.q X1.m X1.d] 53)).alloc (.cells #[.int .i64 X2.a, .int .i64 X2.b, .slice X2.q X2.m X2.d] 53) := ⟨_, rfl⟩
      rw [← hWX] at V1 V2 BX o1 o2 ⊢
      have hV1 := V1
      have hV2 := V2
      clear hWX s2 A2 a4 c0 c1 c2 d0 d1 d2 HX hc hw V1 V2 hA hL hm
      refine wp_region_held_drew (S := fun w' => Below WX.heap.size WX w') (by kernel_rfl) (Below.refl _ _).drew (fun hHeld => ?_)
      refine wpAnyH_take (i := 0) (oi := _) (v := ?_) rfl (by kernel_rfl) (by kernel_rfl) (by kernel_rfl) (fun _ _ _ h => h) (Or.inl ⟨by rfl, ?_⟩) hHeld ?_
      rotate_left
      · intro w' hSw
        (go_simp <;> with_reducible rfl)
      try simp only [Act.put, List.getElem_toArray, List.getElem_cons_zero, List.setIfInBounds_toArray, List.set_cons_zero, List.set_cons_succ]
      refine wpAnyH_take (i := 1) (oi := _) (v := ?_) rfl (by kernel_rfl) (by kernel_rfl) (by kernel_rfl) (fun _ _ _ h => h) (Or.inl ⟨by rfl, ?_⟩) hHeld ?_
      rotate_left
      · intro w' hSw
        obtain ⟨c0, c1, c2⟩ := (hV1.below hSw).at
        obtain ⟨d0, d1, d2⟩ := (hV2.below hSw).at
        (go_simp <;> with_reducible rfl)
      try simp only [Act.put, List.getElem_toArray, List.getElem_cons_succ, List.getElem_cons_zero, List.setIfInBounds_toArray, List.set_cons_zero, List.set_cons_succ]
      refine wpAnyH_take (i := 2) (oi := _) (v := ?_) rfl (by kernel_rfl) (by kernel_rfl) (by kernel_rfl) (fun _ _ _ h => h) (Or.inl ⟨by rfl, ?_⟩) hHeld ?_
      rotate_left
      · intro w' hSw
        (go_simp <;> with_reducible rfl)
      try simp only [Act.put, List.getElem_toArray, List.getElem_cons_succ, List.getElem_cons_zero, List.setIfInBounds_toArray, List.set_cons_zero, List.set_cons_succ]
      refine wpAnyH_take (i := 3) (oi := _) (v := ?_) rfl (by kernel_rfl) (by kernel_rfl) (by kernel_rfl) (fun _ _ _ h => h) (Or.inl ⟨by rfl, ?_⟩) hHeld ?_
      rotate_left
      · intro w' hSw
        (go_simp <;> with_reducible rfl)
      try simp only [Act.put, List.getElem_toArray, List.getElem_cons_succ, List.getElem_cons_zero, List.setIfInBounds_toArray, List.set_cons_zero, List.set_cons_succ]
      refine wpAnyH_take (i := 4) (oi := _) (v := ?_) rfl (by kernel_rfl) (by kernel_rfl) (by kernel_rfl) (fun _ _ _ h => h) (Or.inl ⟨by rfl, ?_⟩) hHeld ?_
      rotate_left
      · intro w' hSw
        obtain ⟨c0, c1, c2⟩ := (hV1.below hSw).at
        obtain ⟨d0, d1, d2⟩ := (hV2.below hSw).at
        (go_simp <;> with_reducible rfl)
      try simp only [Act.put, List.getElem_toArray, List.getElem_cons_succ, List.getElem_cons_zero, List.setIfInBounds_toArray, List.set_cons_zero, List.set_cons_succ]
      refine wpAnyH_take (i := 5) (oi := _) (v := ?_) rfl (by kernel_rfl) (by kernel_rfl) (by kernel_rfl) (fun _ _ _ h => h) (Or.inl ⟨by rfl, ?_⟩) hHeld ?_
      rotate_left
      · intro w' hSw
        (go_simp <;> with_reducible rfl)
      try simp only [Act.put, List.getElem_toArray, List.getElem_cons_succ, List.getElem_cons_zero, List.setIfInBounds_toArray, List.set_cons_zero, List.set_cons_succ]
      refine wpAnyH_take (i := 6) (oi := _) (v := ?_) rfl (by kernel_rfl) (by kernel_rfl) (by kernel_rfl) (fun _ _ _ h => h) (Or.inl ⟨by rfl, ?_⟩) hHeld ?_
      rotate_left
      · intro w' hSw
        obtain ⟨c0, c1, c2⟩ := (hV1.below hSw).at
        obtain ⟨d0, d1, d2⟩ := (hV2.below hSw).at
        (go_simp <;> with_reducible rfl)
      try simp only [Act.put, List.getElem_toArray, List.getElem_cons_succ, List.getElem_cons_zero, List.setIfInBounds_toArray, List.set_cons_zero, List.set_cons_succ]
      refine wpAnyH_ready (rs := [7]) (by kernel_rfl) (by simp) ?_
      refine AllReadyH.cons (o := _) rfl (fun K hK => ?_) (AllReadyH.nil)
      go_simp
      have bA : Below WX.heap.size WX (WX.alloc (.cells #[.slice X1.q X1.m X1.d, .slice X2.q X2.m X2.d] 33)).drew := (bel_self _ _).drew
      have fA : Rd eS (WX.alloc (.cells #[.slice X1.q X1.m X1.d, .slice X2.q X2.m X2.d] 33)).drew (some ⟨WX.heap.size, 0, none⟩) 2 [(X1.q, X1.m, X1.d), (X2.q, X2.m, X2.d)] := (rd_block (E := eS) (heap_alloc_new WX (.cells #[.slice X1.q X1.m X1.d, .slice X2.q X2.m X2.d] 33)) 2 rfl rfl).below (Below.refl _ _).drew
      refine hK.out _ _ bA (fun hHeld => ?_)
      clear hK K
      obtain ⟨wA, hwA⟩ : ∃ wA, wA = (WX.alloc (.cells #[.slice X1.q X1.m X1.d, .slice X2.q X2.m X2.d] 33)).drew := ⟨_, rfl⟩
      rw [← hwA] at bA fA hHeld ⊢
      clear hwA
      try simp only [Act.put, List.getElem_toArray, List.getElem_cons_succ, List.getElem_cons_zero, List.setIfInBounds_toArray, List.set_cons_zero, List.set_cons_succ]
      refine wpAnyH_ready (rs := [8]) (by kernel_rfl) (by simp) ?_
      refine AllReadyH.cons (o := _) rfl (fun K hK => ?_) (AllReadyH.nil)
      go_simp
      go_at_call 21; refine (concat_any _ _ X1.q X1.d X1.m X2.q X2.d X2.m (spL M M.length) (tws W) _ fA ((own_rd o1).below bA) ((own_rd o2).below bA) l1 l2 l9 m l3).mono ?_
      rintro e9 w3 ⟨q, d, rfl, o3, b3⟩
      have B3 : Below WX.heap.size WX w3 := bel_call bA (Nat.le_refl _) b3
      refine hK.out _ _ B3 (fun hHeld => ?_)
      clear hK K
      try simp only [Act.put, List.getElem_toArray, List.getElem_cons_succ, List.getElem_cons_zero, List.setIfInBounds_toArray, List.set_cons_zero, List.set_cons_succ]
      refine wpAnyH_take (i := 9) (oi := _) (v := ?_) rfl (by kernel_rfl) (by kernel_rfl) (by kernel_rfl) (fun _ _ _ h => h) (Or.inl ⟨by rfl, ?_⟩) hHeld ?_
      rotate_left
      · intro w' hSw
        (go_simp <;> with_reducible rfl)
      try simp only [Act.put, List.getElem_toArray, List.getElem_cons_succ, List.getElem_cons_zero, List.setIfInBounds_toArray, List.set_cons_zero, List.set_cons_succ]
      refine wpAnyH_take (i := 10) (oi := _) (v := ?_) rfl (by kernel_rfl) (by kernel_rfl) (by kernel_rfl) (fun _ _ _ h => h) (Or.inl ⟨by rfl, ?_⟩) hHeld ?_
      rotate_left
      · intro w' hSw
        (go_simp <;> with_reducible rfl)
      try simp only [Act.put, List.getElem_toArray, List.getElem_cons_succ, List.getElem_cons_zero, List.setIfInBounds_toArray, List.set_cons_zero, List.set_cons_succ]
      refine wpAnyH_take (i := 11) (oi := _) (v := ?_) rfl (by kernel_rfl) (by kernel_rfl) (by kernel_rfl) (fun _ _ _ h => h) (Or.inl ⟨by rfl, ?_⟩) hHeld ?_
      rotate_left
      · intro w' hSw
        (go_simp <;> with_reducible rfl)
      try simp only [Act.put, List.getElem_toArray, List.getElem_cons_succ, List.getElem_cons_zero, List.setIfInBounds_toArray, List.set_cons_zero, List.set_cons_succ]
      refine wpAnyH_done (by kernel_rfl) ?_ _
      go_wp2
      refine bodyPost_ret (v := .tuple #[.int .i64 A, .int .i64 L, .slice q m d]) (by simp [results, Try.results11]) rfl ⟨⟨q, d, rfl, own_mono o3 (Nat.le_trans BX.size bA.size)⟩, bel_call BX (Nat.le_refl _) B3⟩
  · have hA0 : A = 0 := by rw [← hA]; unfold cosT; rw [if_neg h0]
    have hL0 : L = 0 := by rw [← hL]; unfold losT; rw [if_neg h0]
    have hS : spaT E M W = [] := if_neg h0
    rw [hS] at hm ⊢
    have hm0 : m = 0 := hm.symm
    subst hA0 hL0 hm0
    have q1 : (E == 0) = false := by simp [h0]
    have q2 : (E != 0) = true := by simp [h0]
    have q3 : decide (E = 0) = false := by simp [h0]
    clear hE h31 h3 hA hL hm hS
    have hA0 := Lv.new w #[.int .i64 r, .int .i64 p, .int .i64 e, .slice mp mn mc, .slice wp wn wc, .slice op on oc] 24
    have a0 := hA0.c 0 rfl
    have a1 := hA0.c 1 rfl
    have a2 := hA0.c 2 rfl
    have a3 := hA0.c 3 rfl
    have a4 := hA0.c 4 rfl
    have a5 := hA0.c 5 rfl
    go_enter Try.func11, Try.ntmps11
    go_wp2_with (go_at_call 19; refine hk.mono ?_; rintro e9 w2 ⟨⟨X1, X2, rfl, HX⟩, b2⟩)
    refine bodyPost_ret (v := .tuple #[.int .i64 0, .int .i64 0, .slice none 0 0]) (by simp [results, Try.results11]) rfl ⟨⟨none, 0, rfl, own_nil _ _ _⟩, ((bel_call s1 (Nat.le_refl _) b2).alloc (bel_call s1 (Nat.le_refl _) b2).size _).alloc (by have := (bel_call s1 (Nat.le_refl _) b2).size; simp; omega) _⟩
end Go.Proofs.Ytonholadabebbaa
