/-
  Which programs may be, by the document.
-/
import Derived.Test.YtonholadabebbaaRefx
namespace Go.Proofs.Ytonholadabebbaa
open Go.ChangeShapes Go.WideShapes Go.ChangeAt Go.RowKit
attribute [local go_sem ↓] Go.wp_at_zero Go.wp_at_succ

theorem nest_no {l : List In} (r1 : rowB l = true) (h : ¬ nestR l) : okB l = false := by
  obtain ⟨k1, _, k3⟩ := row_iff.1 r1
  have hn : nestB l = false := by
    rw [Bool.eq_false_iff]
    intro hh
    exact h ((nest_iff k1 (row_all r1) ((k3 _ (by omega)).2.2 (by omega))).1 hh)
  unfold okB
  rw [hn]
  simp
theorem nest_yes {l : List In} (r1 : rowB l = true) (h : nestR l) : nestB l = true := by
  obtain ⟨k1, _, k3⟩ := row_iff.1 r1
  exact (nest_iff k1 (row_all r1) ((k3 _ (by omega)).2.2 (by omega))).2 h
theorem ar_pos {l : List In} (ha : l.all mayB = true) {f : Nat} (h : isAr l f = true) : 1 ≤ rch (gt l f) := by
  have hm := may_iff.1 (all_gt ha f)
  have := rch_eq (all_gt ha f)
  unfold isAr at h
  unfold reachI at this
  unfold mayP at hm
  simp at h
  rcases h with h | h
  · rw [if_neg (by omega), if_pos h] at this; omega
  · rw [if_pos h] at this; omega
def insB (l : List In) (i : Nat) : Bool := decide (bodN l i 24 ≤ 2) && !((gt l i).1 == 11 && (decide (scL l i ≠ List.replicate 24 0) || betw (pairL l) i))
theorem ins_no {l : List In} {i : Nat} (hi : i < l.length) (h : insB l i = false) : okB l = false := by
  unfold insB at h
  rw [Bool.and_eq_false_iff] at h
  unfold okB
  rcases h with h | h
  · have : shalB l = false := allN_no i hi h
    rw [this]; simp
  · have : markB l = false := allN_no i hi h
    rw [this]; simp
theorem ins_yes {l : List In} (r1 : rowB l = true) (r2 : nestB l = true) (r4 : okP l = true) (h : ∀ i, i < l.length → insB l i = true) : okB l = true := by
  have h3 : shalB l = true := allN_iff.2 (fun i hi => by have := h i hi; unfold insB at this; rw [Bool.and_eq_true] at this; exact this.1)
  have h5 : markB l = true := allN_iff.2 (fun i hi => by have := h i hi; unfold insB at this; rw [Bool.and_eq_true] at this; exact this.2)
  unfold okB
  rw [r1, r2, h3, r4, h5]
  rfl
theorem okP_ok {l : List In} (h : okP l = false) : okB l = false := by unfold okB; rw [h]; simp

set_option maxRecDepth 100000 in
set_option maxHeartbeats 16000000 in
theorem mayCode_any (p : Option Addr) (c : Nat) (l : List In) (w : World) (hr : Rd eIn w p c l) (n : Nat) (hN : l.length = n) (hl : n ≤ 1000) :
    Calls Try.prog 32 #[.slice p n c] w fun e w' => e = .returned (.bool (okB l)) ∧ Below w.heap.size w w' := by
  have HN : Hid (l.length = n) := hN
  clear hN
  by_cases h0 : n = 0
  · subst h0
    have HF : Hid (okB l = false) := by show _ = _; unfold okB; rw [row_out (by rw [HN.out]; omega)]; rfl
    rw [HF.out]
    go_enter Try.func32, Try.ntmps32
    go_wp2
    go_ret
    exact ⟨rfl, Below.refl _ _⟩
  by_cases h24 : 24 < n
  · have HF : Hid (okB l = false) := by show _ = _; unfold okB; rw [row_out (by rw [HN.out]; omega)]; rfl
    rw [HF.out]
    have d0 : decide ((n : Int) < 1) = false := decide_eq_false (by omega)
    have d1 : decide ((24 : Int) < (n : Int)) = true := by simp; omega
    go_enter Try.func32, Try.ntmps32
    go_wp2
    go_ret
    exact ⟨rfl, Below.refl _ _⟩
  have d0 : decide ((n : Int) < 1) = false := decide_eq_false (by omega)
  have d1 : decide ((24 : Int) < (n : Int)) = false := by simp; omega
  have hn24 : n ≤ 24 := by omega
  go_enter Try.func32, Try.ntmps32
  go_wp2
  go_loopw [3] (fun i wr => ∃ k : Nat, k ≤ n ∧ i = .int .i64 k ∧ Hid (∀ j, j < k → (mayB (gt l j) && (((gt l j).1 == 0) == decide (j + 1 = l.length))) = true) ∧ Below w.heap.size w wr) (fun i _ => n - (intOf i).toNat)
  case atStart => exact ⟨0, Nat.zero_le _, rfl, fun j hj => by omega, Below.refl _ _⟩
  case round =>
    obtain ⟨k, hk, rfl, HT, hbw⟩ := hrel
    by_cases hlt : k < n
    · have hkl : k < l.length := by rw [HN.out]; exact hlt
      obtain ⟨b, o, rfl, hb, f0, f1, f2, f3⟩ := (hr.below hbw).inst k hkl
      have HG : Hid (gt l k = l[k]) := gt_eq hkl
      generalize l[k] = x at *
      obtain ⟨xo, xa, xb, xn⟩ := x
      simp only at f0 f1 f2 f3
      by_cases hm : mayB (xo, xa, xb, xn) = true
      · by_cases hgood : (xo = 0 ↔ k + 1 = n)
        · have HK : Hid (∀ j, j < k + 1 → (mayB (gt l j) && (((gt l j).1 == 0) == decide (j + 1 = l.length))) = true) := fun j hj => (if e : j = k then by subst e; rw [HG.out, HN.out, hm]; by_cases hx : xo = 0 <;> simp [hx, hgood.1, ← hgood] else HT.out j (by omega))
          by_cases ho : xo = 0
          · subst ho
            have de : ((k : Int) == (n : Int) - 1) = true := by simp; have := hgood.1 rfl; omega
            clear hgood
            go_wp2_with (go_at_call 35; refine (mayInst_any (0, xa, xb, xn) _).mono ?_; rintro e w4 ⟨rfl, hb4⟩; obtain ⟨hc4, hf4⟩ := bcell hb4; have hz4 := hb4.size)
            go_roundw
            case rel => exact ⟨k + 1, by omega, by go_num, HK, bel_call hbw (Nat.le_refl _) hb4⟩
            case measure => simp [intOf]; omega
          · have d0 : (xo == 0) = false := by simpa using ho
            have de : ((k : Int) == (n : Int) - 1) = false := by simp; have : ¬ (k + 1 = n) := fun e => ho (hgood.2 e); omega
            clear hgood ho
            go_wp2_with (go_at_call 35; refine (mayInst_any (xo, xa, xb, xn) _).mono ?_; rintro e w4 ⟨rfl, hb4⟩; obtain ⟨hc4, hf4⟩ := bcell hb4; have hz4 := hb4.size)
            go_roundw
            case rel => exact ⟨k + 1, by omega, by go_num, HK, bel_call hbw (Nat.le_refl _) hb4⟩
            case measure => simp [intOf]; omega
        · have HF : Hid (okB l = false) := by
            show _ = _
            unfold okB
            rw [row_no k hkl (by rw [HG.out, HN.out]; by_cases hx : xo = 0 <;> by_cases hy : k + 1 = n <;> simp_all)]
            rfl
          by_cases ho : xo = 0
          · subst ho
            have de : ((k : Int) == (n : Int) - 1) = false := by simp; have : ¬ (k + 1 = n) := fun e => hgood ⟨fun _ => e, fun _ => rfl⟩; omega
            clear hgood
            go_wp2_with (go_at_call 35; refine (mayInst_any (0, xa, xb, xn) _).mono ?_; rintro e w4 ⟨rfl, hb4⟩; obtain ⟨hc4, hf4⟩ := bcell hb4; have hz4 := hb4.size)
            go_ret
            exact ⟨by rw [HF.out]; rfl, bel_call hbw (Nat.le_refl _) hb4⟩
          · have d0 : (xo == 0) = false := by simpa using ho
            have de : ((k : Int) == (n : Int) - 1) = true := by
              have : k + 1 = n := Decidable.byContradiction fun e => hgood ⟨fun h => absurd h ho, fun h => absurd h e⟩
              simp; omega
            clear hgood ho
            go_wp2_with (go_at_call 35; refine (mayInst_any (xo, xa, xb, xn) _).mono ?_; rintro e w4 ⟨rfl, hb4⟩; obtain ⟨hc4, hf4⟩ := bcell hb4; have hz4 := hb4.size)
            go_ret
            exact ⟨by rw [HF.out]; rfl, bel_call hbw (Nat.le_refl _) hb4⟩
      · have hm' : mayB (xo, xa, xb, xn) = false := by simpa using hm
        have HF : Hid (okB l = false) := by show _ = _; unfold okB; rw [row_no k hkl (by rw [HG.out, hm']; rfl)]; rfl
        clear hm
        go_wp2_with (go_at_call 35; refine (mayInst_any (xo, xa, xb, xn) _).mono ?_; rintro e w4 ⟨rfl, hb4⟩)
        go_ret
        exact ⟨by rw [HF.out]; rfl, bel_call hbw (Nat.le_refl _) hb4⟩
    · have r1 : rowB l = true := by
        unfold rowB
        rw [allN_iff.2 (fun i hi => HT.out i (by rw [HN.out] at hi; omega)), HN.out]
        simp
        omega
      have hal := row_all r1
      have har := areas_any p c l wr (hr.below hbw) n HN.out hn24 hal
      have hrp := fun w' (hb' : Below wr.heap.size wr w') => refPairs_any p c l w' ((hr.below hbw).below hb') n HN.out hn24 hal (by omega)
      have t0 : decide ((k : Int) < (n : Int)) = false := by simpa using hlt
      clear HT
      go_wp2_with (go_at_call 45; refine har.mono ?_; rintro e w1 ⟨qa, da, ma, rfl, hma, howna, hb1⟩; have HMA : Hid (ma = (arI l n).length) := hma; clear hma)
      have hma24 : ma ≤ 24 := by rw [HMA.out]; have := arI_le l n; omega
      have hra := own_rd howna
      have hB0 := bel_call hbw (Nat.le_refl _) hb1
      have hrl := (hr.below hbw).below hb1
      clear har howna
      generalize wr = wst at *
      go_loopw [5] (fun t wr => ∃ i : Nat, i ≤ ma ∧ t = .int .i64 i ∧ Hid (∀ y, (hy : y < (arI l n).length) → y < i → ((arI l n)[y] : Int) + reachI (gt l (arI l n)[y]) + 1 < n ∧ ∀ G ∈ arI l n, inA l (arI l n)[y] G = true → (G : Int) + reachI (gt l G) ≤ ((arI l n)[y] : Int) + reachI (gt l (arI l n)[y])) ∧ Below w1.heap.size w1 wr) (fun t _ => ma - (intOf t).toNat)
      case atStart => exact ⟨0, Nat.zero_le _, rfl, fun y _ hy => by omega, Below.refl _ _⟩
      case round =>
        obtain ⟨i, hi, rfl, HI, hbi⟩ := hrel
        generalize wr = wi at *
        by_cases hlt2 : i < ma
        · have hil : i < (arI l n).length := by rw [← HMA.out]; exact hlt2
          have hil' : i < (arL l n).length := by rw [arL_len]; exact hil
          obtain ⟨ba, oa, rfl, hbaw, A0, A1', A2', A3⟩ := hra.area i hil'
          have hel : (arL l n)[i] = arE l (arI l n)[i] := by simp [arL]
          rw [hel] at A0 A1' A2' A3
          simp only [arE] at A0 A1' A2' A3
          have hmem : (arI l n)[i] ∈ arI l n := List.getElem_mem hil
          have hFr := rch_eq (all_gt hal (arI l n)[i])
          have hFp := ar_pos hal (arI_mem.1 hmem).2
          have hFb := reach_bd (all_gt hal (arI l n)[i])
          have hFn := (arI_mem.1 hmem).1
          have hndp : ∀ y, (hy : y < (arI l n).length) → y ≠ i → (arI l n)[y] ≠ (arI l n)[i] := fun y hy hne e => hne ((List.getElem_inj (arI_nodup l n)).1 e)
          have has_T : ∀ x : Nat, (decide (((arI l n)[i] : Int) + 1 ≤ (x : Int)) && decide ((x : Int) ≤ ((arI l n)[i] : Int) + reachI (gt l (arI l n)[i]))) = inA l (arI l n)[i] x := fun x => has_iff hal _ x
          have hinT : ∀ x : Nat, inA l (arI l n)[i] x = true ↔ ((arI l n)[i] : Int) < x ∧ (x : Int) ≤ ((arI l n)[i] : Int) + reachI (gt l (arI l n)[i]) := fun x => by rw [inA_iff]; omega
          clear hel
          obtain ⟨T, hT⟩ : ∃ T : Int, ((arI l n)[i] : Int) + reachI (gt l (arI l n)[i]) = T := ⟨_, rfl⟩
          rw [hT] at A1' has_T hinT
          have HTT : Hid (((arI l n)[i] : Int) + reachI (gt l (arI l n)[i]) = T) := hT
          have hFT : ((arI l n)[i] : Int) < T ∧ T ≤ ((arI l n)[i] : Int) + 24 := by omega
          have HTN : Hid (((arI l n)[i] + rch (gt l (arI l n)[i]) : Int) = T) := by show _ = _; omega
          clear hT hFr hFp hFb
          have HMF : Hid ((arI l n)[i] ∈ arI l l.length) := by show _ ∈ _; rw [HN.out]; exact hmem
          clear hmem
          have HIX : Hid (∀ y, (hy : y < (arI l n).length) → y < i + 1 → (y < i ∨ (arI l n)[y] = (arI l n)[i])) := fun y hy hlt => (if e : y = i then .inr (by subst e; rfl) else .inl (by omega))
          generalize ((gt l (arI l n)[i]).1 == 8) = D at *
          generalize (arI l n)[i] = F at *
          have a0 := (hbi.cell (p := ⟨ba, oa + i * 4, none⟩) hbaw).trans A0
          have a1 := (hbi.cell (p := ⟨ba, oa + i * 4 + 1, none⟩) hbaw).trans A1'
          have hba : ba < wi.heap.size := Nat.lt_of_lt_of_le hbaw hbi.size
          by_cases hto : (n : Int) - 1 ≤ T
          · have dt : decide ((n : Int) - 1 ≤ T) = true := by simpa using hto
            have HF : Hid (okB l = false) := nest_no r1 (fun h => by have h' := h.1 F HMF.out; rw [HN.out] at h'; have := HTN.out; omega)
            clear hto
            go_wp2
            go_ret
            exact ⟨by rw [HF.out]; rfl, bel_call hB0 (Nat.le_refl _) hbi⟩
          · have dt : decide ((n : Int) - 1 ≤ T) = false := by simpa using hto
            go_wp2
            go_loopw [6] (fun t wr => ∃ z : Nat, z ≤ ma ∧ t = .int .i64 z ∧ Hid (∀ y, (hy : y < (arI l n).length) → y < z → inA l F (arI l n)[y] = true → ((arI l n)[y] : Int) + reachI (gt l (arI l n)[y]) ≤ T) ∧ Below w1.heap.size w1 wr) (fun t _ => ma - (intOf t).toNat)
            case atStart => exact ⟨0, Nat.zero_le _, rfl, fun y _ hy => by omega, hbi⟩
            case round =>
              obtain ⟨z, hz, rfl, HT, hbz⟩ := hrel
              clear a0 a1 hba hbi
              by_cases hlt3 : z < ma
              · have hzl : z < (arI l n).length := by rw [← HMA.out]; exact hlt3
                have hzl' : z < (arL l n).length := by rw [arL_len]; exact hzl
                by_cases hiz : i = z
                · subst hiz
                  have HK : Hid (∀ y, (hy : y < (arI l n).length) → y < i + 1 → inA l F (arI l n)[y] = true → ((arI l n)[y] : Int) + reachI (gt l (arI l n)[y]) ≤ T) := fun y hy hlt hin => (HIX.out y hy hlt).elim (fun h => HT.out y hy h hin) (fun h => by rw [h, HTT.out]; exact Int.le_refl _)
                  go_wp2
                  go_roundw
                  case rel => exact ⟨i + 1, by omega, by go_num, HK, hbz⟩
                  case measure => simp [intOf]; omega
                · have dz : ((i : Int) == (z : Int)) = false := by simp; omega
                  obtain ⟨ba', oa', e', _, G0, G1, G2, G3⟩ := hra.area z hzl'
                  cases e'
                  have hel : (arL l n)[z] = arE l (arI l n)[z] := by simp [arL]
                  rw [hel] at G0 G1 G2
                  simp only [arE] at G0 G1 G2
                  have hmem : (arI l n)[z] ∈ arI l n := List.getElem_mem hzl
                  have hGr := rch_eq (all_gt hal (arI l n)[z])
                  have hGp := ar_pos hal (arI_mem.1 hmem).2
                  have hGb := reach_bd (all_gt hal (arI l n)[z])
                  have hGn := (arI_mem.1 hmem).1
                  have hne := hndp z hzl (fun e => hiz e.symm)
                  have HMG : Hid ((arI l n)[z] ∈ arI l l.length) := by show _ ∈ _; rw [HN.out]; exact hmem
                  have HFZ : Hid (∀ y, (hy : y < (arI l n).length) → y < z + 1 → (y < z ∨ (arI l n)[y] = (arI l n)[z])) := fun y hy hlt => (if e : y = z then .inr (by subst e; rfl) else .inl (by omega))
                  have hinV : ∀ x : Nat, inA l (arI l n)[z] x = true ↔ ((arI l n)[z] : Int) < x ∧ (x : Int) ≤ ((arI l n)[z] : Int) + reachI (gt l (arI l n)[z]) := fun x => by rw [inA_iff]; omega
                  obtain ⟨V, hV⟩ : ∃ V : Int, ((arI l n)[z] : Int) + reachI (gt l (arI l n)[z]) = V := ⟨_, rfl⟩
                  rw [hV] at G1 hinV
                  have HVV : Hid (((arI l n)[z] : Int) + reachI (gt l (arI l n)[z]) = V) := hV
                  have HVN : Hid (((arI l n)[z] + rch (gt l (arI l n)[z]) : Int) = V) := by show _ = _; omega
                  have hGV : ((arI l n)[z] : Int) < V ∧ V ≤ ((arI l n)[z] : Int) + 24 := by omega
                  clear hel hmem hV hGr hGp hGb G3
                  generalize (arI l n)[z] = G at *
                  have a0 := (hbz.cell (p := ⟨ba, oa + i * 4, none⟩) hbaw).trans A0
                  have a1 := (hbz.cell (p := ⟨ba, oa + i * 4 + 1, none⟩) hbaw).trans A1'
                  have a2 := (hbz.cell (p := ⟨ba, oa + i * 4 + 2, none⟩) hbaw).trans A2'
                  have a3 := (hbz.cell (p := ⟨ba, oa + i * 4 + 3, none⟩) hbaw).trans A3
                  have g0 := (hbz.cell (p := ⟨ba, oa + z * 4, none⟩) hbaw).trans G0
                  have g1 := (hbz.cell (p := ⟨ba, oa + z * 4 + 1, none⟩) hbaw).trans G1
                  have g2 := (hbz.cell (p := ⟨ba, oa + z * 4 + 2, none⟩) hbaw).trans G2
                  have hba : ba < wr.heap.size := Nat.lt_of_lt_of_le hbaw hbz.size
                  obtain ⟨hF1, hF2⟩ := hFT
                  obtain ⟨hV1, hV2⟩ := hGV
                  have z1 : (0 : Int) ≤ (i : Int) := by omega
                  have z2 : (i : Int) < (ma : Int) := by omega
                  have z3 : (0 : Int) ≤ (z : Int) := by omega
                  have z4 : (z : Int) < (ma : Int) := by omega
                  clear A0 A1' A2' A3 G0 G1 G2 hndp HI hrp hra hrl hil' hzl'
                  by_cases A1 : T < (G : Int) + 1
                  · by_cases A1a : (G : Int) = T
                    · have hin : inA l F G = true := (hinT G).2 (by omega)
                      have e1 : decide (T < (G : Int) + 1) = true := decide_eq_true (by omega)
                      have e3 : decide ((F : Int) + 1 ≤ (G : Int) + 1) = true := decide_eq_true (by omega)
                      have e4 : decide (V ≤ T) = false := decide_eq_false (by omega)
                      have e5 : decide ((G : Int) + 1 ≤ (F : Int) + 1) = false := decide_eq_false (by omega)
                      have e7 : decide (T < V) = true := decide_eq_true (by omega)
                      have HF : Hid (okB l = false) := nest_no r1 (fun h => by have h1 := h.2 F HMF.out G HMG.out hin; have h2 := HTN.out; have h3 := HVN.out; omega)
                      have hh := fun w' => has_c ((F : Int) + 1) T F D G w' true (by rw [has_T]; exact hin)
                      clear A1a
                      generalize (F : Int) = Fi at *
                      generalize (G : Int) = Gi at *
                      have e1_ : decide (T ≤ Gi) = true := decide_eq_true (by simp at e1; omega)
                      have e3_ : decide (Fi ≤ Gi) = true := decide_eq_true (by simp at e3; omega)
                      have e5_ : decide (Gi ≤ Fi) = false := decide_eq_false (by simp at e5; omega)
                      as_aux_lemma =>
                        go_wp2
                        go_quiet (fail)
                        go_wp2
                        go_quiet (fail)
                        go_wp2
                        refine wp_region_held_drew (S := fun w' => Below wr.heap.size wr w') (by kernel_rfl) (by first | exact (bel_draws (bel_draws (Below.refl _ _) _) _).drew | exact (bel_draws (Below.refl _ _) _).drew) (fun hHeld => ?_)
                        refine wpAnyH_take (i := 0) (oi := _) (v := ?_) rfl (by kernel_rfl) (by kernel_rfl) (by kernel_rfl) (fun _ _ _ h => h) (Or.inl ⟨by rfl, ?_⟩) hHeld ?_
                        rotate_left
                        · intro w' hSw
                          (go_simp <;> with_reducible rfl)
                        try simp only [Act.put, List.getElem_toArray, List.getElem_cons_zero, List.setIfInBounds_toArray, List.set_cons_zero, List.set_cons_succ]
                        refine wpAnyH_take (i := 1) (oi := _) (v := ?_) rfl (by kernel_rfl) (by kernel_rfl) (by kernel_rfl) (fun _ _ _ h => h) (Or.inl ⟨by rfl, ?_⟩) hHeld ?_
                        rotate_left
                        · intro w' hSw
                          (go_simp <;> with_reducible rfl)
                        try simp only [Act.put, List.getElem_toArray, List.getElem_cons_succ, List.getElem_cons_zero, List.setIfInBounds_toArray, List.set_cons_zero, List.set_cons_succ]
                        refine wpAnyH_take (i := 2) (oi := _) (v := ?_) rfl (by kernel_rfl) (by kernel_rfl) (by kernel_rfl) (fun _ _ _ h => h) (Or.inl ⟨by rfl, ?_⟩) hHeld ?_
                        rotate_left
                        · intro w' hSw
                          (go_simp <;> with_reducible rfl)
                        try simp only [Act.put, List.getElem_toArray, List.getElem_cons_succ, List.getElem_cons_zero, List.setIfInBounds_toArray, List.set_cons_zero, List.set_cons_succ]
                        refine wpAnyH_take (i := 3) (oi := _) (v := undef) rfl (by kernel_rfl) (by kernel_rfl) (by kernel_rfl) (fun _ _ _ h => h) (Or.inr ⟨by rfl, rfl⟩) hHeld ?_
                        try simp only [Act.put, List.getElem_toArray, List.getElem_cons_succ, List.getElem_cons_zero, List.setIfInBounds_toArray, List.set_cons_zero, List.set_cons_succ]
                        refine wpAnyH_take (i := 4) (oi := _) (v := undef) rfl (by kernel_rfl) (by kernel_rfl) (by kernel_rfl) (fun _ _ _ h => h) (Or.inr ⟨by rfl, rfl⟩) hHeld ?_
                        try simp only [Act.put, List.getElem_toArray, List.getElem_cons_succ, List.getElem_cons_zero, List.setIfInBounds_toArray, List.set_cons_zero, List.set_cons_succ]
                        refine wpAnyH_take (i := 5) (oi := _) (v := ?_) rfl (by kernel_rfl) (by kernel_rfl) (by kernel_rfl) (fun _ _ _ h => h) (Or.inl ⟨by rfl, ?_⟩) hHeld ?_
                        rotate_left
                        · intro w' hSw
                          (go_simp <;> with_reducible rfl)
                        try simp only [Act.put, List.getElem_toArray, List.getElem_cons_succ, List.getElem_cons_zero, List.setIfInBounds_toArray, List.set_cons_zero, List.set_cons_succ]
                        refine wpAnyH_take (i := 6) (oi := _) (v := ?_) rfl (by kernel_rfl) (by kernel_rfl) (by kernel_rfl) (fun _ _ _ h => h) (Or.inl ⟨by rfl, ?_⟩) hHeld ?_
                        rotate_left
                        · intro w' hSw
                          (go_simp <;> with_reducible rfl)
                        try simp only [Act.put, List.getElem_toArray, List.getElem_cons_succ, List.getElem_cons_zero, List.setIfInBounds_toArray, List.set_cons_zero, List.set_cons_succ]
                        refine wpAnyH_take (i := 7) (oi := _) (v := ?_) rfl (by kernel_rfl) (by kernel_rfl) (by kernel_rfl) (fun _ _ _ h => h) (Or.inl ⟨by rfl, ?_⟩) hHeld ?_
                        rotate_left
                        · intro w' hSw
                          (go_simp <;> with_reducible rfl)
                        try simp only [Act.put, List.getElem_toArray, List.getElem_cons_succ, List.getElem_cons_zero, List.setIfInBounds_toArray, List.set_cons_zero, List.set_cons_succ]
                        refine wpAnyH_take (i := 8) (oi := _) (v := ?_) rfl (by kernel_rfl) (by kernel_rfl) (by kernel_rfl) (fun _ _ _ h => h) (Or.inl ⟨by rfl, ?_⟩) hHeld ?_
                        rotate_left
                        · intro w' hSw
                          (go_simp <;> with_reducible rfl)
                        try simp only [Act.put, List.getElem_toArray, List.getElem_cons_succ, List.getElem_cons_zero, List.setIfInBounds_toArray, List.set_cons_zero, List.set_cons_succ]
                        refine wpAnyH_take (i := 9) (oi := _) (v := ?_) rfl (by kernel_rfl) (by kernel_rfl) (by kernel_rfl) (fun _ _ _ h => h) (Or.inl ⟨by rfl, ?_⟩) hHeld ?_
                        rotate_left
                        · intro w' hSw
                          (go_simp <;> with_reducible rfl)
                        try simp only [Act.put, List.getElem_toArray, List.getElem_cons_succ, List.getElem_cons_zero, List.setIfInBounds_toArray, List.set_cons_zero, List.set_cons_succ]
                        refine wpAnyH_take (i := 10) (oi := _) (v := ?_) rfl (by kernel_rfl) (by kernel_rfl) (by kernel_rfl) (fun _ _ _ h => h) (Or.inl ⟨by rfl, ?_⟩) hHeld ?_
                        rotate_left
                        · intro w' hSw
                          have k0 := (hSw.cell (p := ⟨ba, oa + i * 4, none⟩) hba).trans a0
                          have k1 := (hSw.cell (p := ⟨ba, oa + i * 4 + 1, none⟩) hba).trans a1
                          have k2 := (hSw.cell (p := ⟨ba, oa + i * 4 + 2, none⟩) hba).trans a2
                          have k3 := (hSw.cell (p := ⟨ba, oa + i * 4 + 3, none⟩) hba).trans a3
                          have m0 := (hSw.cell (p := ⟨ba, oa + z * 4, none⟩) hba).trans g0
                          have m1 := (hSw.cell (p := ⟨ba, oa + z * 4 + 1, none⟩) hba).trans g1
                          have m2 := (hSw.cell (p := ⟨ba, oa + z * 4 + 2, none⟩) hba).trans g2
                          (go_simp <;> with_reducible rfl)
                        try simp only [Act.put, List.getElem_toArray, List.getElem_cons_succ, List.getElem_cons_zero, List.setIfInBounds_toArray, List.set_cons_zero, List.set_cons_succ]
                        refine wpAnyH_take (i := 11) (oi := _) (v := ?_) rfl (by kernel_rfl) (by kernel_rfl) (by kernel_rfl) (fun _ _ _ h => h) (Or.inl ⟨by rfl, ?_⟩) hHeld ?_
                        rotate_left
                        · intro w' hSw
                          (go_simp <;> with_reducible rfl)
                        try simp only [Act.put, List.getElem_toArray, List.getElem_cons_succ, List.getElem_cons_zero, List.setIfInBounds_toArray, List.set_cons_zero, List.set_cons_succ]
                        refine wpAnyH_take (i := 12) (oi := _) (v := ?_) rfl (by kernel_rfl) (by kernel_rfl) (by kernel_rfl) (fun _ _ _ h => h) (Or.inl ⟨by rfl, ?_⟩) hHeld ?_
                        rotate_left
                        · intro w' hSw
                          (go_simp <;> with_reducible rfl)
                        try simp only [Act.put, List.getElem_toArray, List.getElem_cons_succ, List.getElem_cons_zero, List.setIfInBounds_toArray, List.set_cons_zero, List.set_cons_succ]
                        refine wpAnyH_take (i := 13) (oi := _) (v := ?_) rfl (by kernel_rfl) (by kernel_rfl) (by kernel_rfl) (fun _ _ _ h => h) (Or.inl ⟨by rfl, ?_⟩) hHeld ?_
                        rotate_left
                        · intro w' hSw
                          (go_simp <;> with_reducible rfl)
                        try simp only [Act.put, List.getElem_toArray, List.getElem_cons_succ, List.getElem_cons_zero, List.setIfInBounds_toArray, List.set_cons_zero, List.set_cons_succ]
                        refine wpAnyH_take (i := 14) (oi := _) (v := ?_) rfl (by kernel_rfl) (by kernel_rfl) (by kernel_rfl) (fun _ _ _ h => h) (Or.inl ⟨by rfl, ?_⟩) hHeld ?_
                        rotate_left
                        · intro w' hSw
                          (go_simp <;> with_reducible rfl)
                        try simp only [Act.put, List.getElem_toArray, List.getElem_cons_succ, List.getElem_cons_zero, List.setIfInBounds_toArray, List.set_cons_zero, List.set_cons_succ]
                        refine wpAnyH_take (i := 15) (oi := _) (v := ?_) rfl (by kernel_rfl) (by kernel_rfl) (by kernel_rfl) (fun _ _ _ h => h) (Or.inl ⟨by rfl, ?_⟩) hHeld ?_
                        rotate_left
                        · intro w' hSw
                          have k0 := (hSw.cell (p := ⟨ba, oa + i * 4, none⟩) hba).trans a0
                          have k1 := (hSw.cell (p := ⟨ba, oa + i * 4 + 1, none⟩) hba).trans a1
                          have k2 := (hSw.cell (p := ⟨ba, oa + i * 4 + 2, none⟩) hba).trans a2
                          have k3 := (hSw.cell (p := ⟨ba, oa + i * 4 + 3, none⟩) hba).trans a3
                          have m0 := (hSw.cell (p := ⟨ba, oa + z * 4, none⟩) hba).trans g0
                          have m1 := (hSw.cell (p := ⟨ba, oa + z * 4 + 1, none⟩) hba).trans g1
                          have m2 := (hSw.cell (p := ⟨ba, oa + z * 4 + 2, none⟩) hba).trans g2
                          (go_simp <;> with_reducible rfl)
                        try simp only [Act.put, List.getElem_toArray, List.getElem_cons_succ, List.getElem_cons_zero, List.setIfInBounds_toArray, List.set_cons_zero, List.set_cons_succ]
                        refine wpAnyH_ready (rs := [16]) (by kernel_rfl) (by simp) ?_
                        refine AllReadyH.cons (o := _) rfl (fun K hK => ?_) AllReadyH.nil
                        go_simp
                        go_at_call 46
                        (with_reducible (refine (hh _).mono ?_))
                        rintro e w8 ⟨rfl, b8⟩
                        have B8 : Below wr.heap.size wr w8 := bel_call (by first | exact (bel_draws (bel_draws (Below.refl _ _) _) _).drew | exact (bel_draws (Below.refl _ _) _).drew) (Nat.le_refl _) b8
                        refine hK.out _ _ B8 (fun hHeld => ?_)
                        clear hK K
                        try simp only [Act.put, List.getElem_toArray, List.getElem_cons_succ, List.getElem_cons_zero, List.setIfInBounds_toArray, List.set_cons_zero, List.set_cons_succ]
                        refine wpAnyH_take (i := 17) (oi := _) (v := ?_) rfl (by kernel_rfl) (by kernel_rfl) (by kernel_rfl) (fun _ _ _ h => h) (Or.inl ⟨by rfl, ?_⟩) hHeld ?_
                        rotate_left
                        · intro w' hSw
                          (go_simp <;> with_reducible rfl)
                        try simp only [Act.put, List.getElem_toArray, List.getElem_cons_succ, List.getElem_cons_zero, List.setIfInBounds_toArray, List.set_cons_zero, List.set_cons_succ]
                        refine wpAnyH_take (i := 18) (oi := _) (v := ?_) rfl (by kernel_rfl) (by kernel_rfl) (by kernel_rfl) (fun _ _ _ h => h) (Or.inl ⟨by rfl, ?_⟩) hHeld ?_
                        rotate_left
                        · intro w' hSw
                          (go_simp <;> with_reducible rfl)
                        try simp only [Act.put, List.getElem_toArray, List.getElem_cons_succ, List.getElem_cons_zero, List.setIfInBounds_toArray, List.set_cons_zero, List.set_cons_succ]
                        refine wpAnyH_take (i := 19) (oi := _) (v := ?_) rfl (by kernel_rfl) (by kernel_rfl) (by kernel_rfl) (fun _ _ _ h => h) (Or.inl ⟨by rfl, ?_⟩) hHeld ?_
                        rotate_left
                        · intro w' hSw
                          (go_simp <;> with_reducible rfl)
                        try simp only [Act.put, List.getElem_toArray, List.getElem_cons_succ, List.getElem_cons_zero, List.setIfInBounds_toArray, List.set_cons_zero, List.set_cons_succ]
                        refine wpAnyH_take (i := 20) (oi := _) (v := ?_) rfl (by kernel_rfl) (by kernel_rfl) (by kernel_rfl) (fun _ _ _ h => h) (Or.inl ⟨by rfl, ?_⟩) hHeld ?_
                        rotate_left
                        · intro w' hSw
                          (go_simp <;> with_reducible rfl)
                        try simp only [Act.put, List.getElem_toArray, List.getElem_cons_succ, List.getElem_cons_zero, List.setIfInBounds_toArray, List.set_cons_zero, List.set_cons_succ]
                        refine wpAnyH_take (i := 21) (oi := _) (v := ?_) rfl (by kernel_rfl) (by kernel_rfl) (by kernel_rfl) (fun _ _ _ h => h) (Or.inl ⟨by rfl, ?_⟩) hHeld ?_
                        rotate_left
                        · intro w' hSw
                          (go_simp <;> with_reducible rfl)
                        try simp only [Act.put, List.getElem_toArray, List.getElem_cons_succ, List.getElem_cons_zero, List.setIfInBounds_toArray, List.set_cons_zero, List.set_cons_succ]
                        refine wpAnyH_take (i := 22) (oi := _) (v := ?_) rfl (by kernel_rfl) (by kernel_rfl) (by kernel_rfl) (fun _ _ _ h => h) (Or.inl ⟨by rfl, ?_⟩) hHeld ?_
                        rotate_left
                        · intro w' hSw
                          have k0 := (hSw.cell (p := ⟨ba, oa + i * 4, none⟩) hba).trans a0
                          have k1 := (hSw.cell (p := ⟨ba, oa + i * 4 + 1, none⟩) hba).trans a1
                          have k2 := (hSw.cell (p := ⟨ba, oa + i * 4 + 2, none⟩) hba).trans a2
                          have k3 := (hSw.cell (p := ⟨ba, oa + i * 4 + 3, none⟩) hba).trans a3
                          have m0 := (hSw.cell (p := ⟨ba, oa + z * 4, none⟩) hba).trans g0
                          have m1 := (hSw.cell (p := ⟨ba, oa + z * 4 + 1, none⟩) hba).trans g1
                          have m2 := (hSw.cell (p := ⟨ba, oa + z * 4 + 2, none⟩) hba).trans g2
                          (go_simp <;> with_reducible rfl)
                        try simp only [Act.put, List.getElem_toArray, List.getElem_cons_succ, List.getElem_cons_zero, List.setIfInBounds_toArray, List.set_cons_zero, List.set_cons_succ]
                        refine wpAnyH_take (i := 23) (oi := _) (v := ?_) rfl (by kernel_rfl) (by kernel_rfl) (by kernel_rfl) (fun _ _ _ h => h) (Or.inl ⟨by rfl, ?_⟩) hHeld ?_
                        rotate_left
                        · intro w' hSw
                          (go_simp <;> with_reducible rfl)
                        try simp only [Act.put, List.getElem_toArray, List.getElem_cons_succ, List.getElem_cons_zero, List.setIfInBounds_toArray, List.set_cons_zero, List.set_cons_succ]
                        refine wpAnyH_take (i := 24) (oi := _) (v := ?_) rfl (by kernel_rfl) (by kernel_rfl) (by kernel_rfl) (fun _ _ _ h => h) (Or.inl ⟨by rfl, ?_⟩) hHeld ?_
                        rotate_left
                        · intro w' hSw
                          (go_simp <;> with_reducible rfl)
                        try simp only [Act.put, List.getElem_toArray, List.getElem_cons_succ, List.getElem_cons_zero, List.setIfInBounds_toArray, List.set_cons_zero, List.set_cons_succ]
                        refine wpAnyH_take (i := 25) (oi := _) (v := ?_) rfl (by kernel_rfl) (by kernel_rfl) (by kernel_rfl) (fun _ _ _ h => h) (Or.inl ⟨by rfl, ?_⟩) hHeld ?_
                        rotate_left
                        · intro w' hSw
                          (go_simp <;> with_reducible rfl)
                        try simp only [Act.put, List.getElem_toArray, List.getElem_cons_succ, List.getElem_cons_zero, List.setIfInBounds_toArray, List.set_cons_zero, List.set_cons_succ]
                        refine wpAnyH_take (i := 26) (oi := _) (v := ?_) rfl (by kernel_rfl) (by kernel_rfl) (by kernel_rfl) (fun _ _ _ h => h) (Or.inl ⟨by rfl, ?_⟩) hHeld ?_
                        rotate_left
                        · intro w' hSw
                          (go_simp <;> with_reducible rfl)
                        try simp only [Act.put, List.getElem_toArray, List.getElem_cons_succ, List.getElem_cons_zero, List.setIfInBounds_toArray, List.set_cons_zero, List.set_cons_succ]
                        refine wpAnyH_take (i := 27) (oi := _) (v := ?_) rfl (by kernel_rfl) (by kernel_rfl) (by kernel_rfl) (fun _ _ _ h => h) (Or.inl ⟨by rfl, ?_⟩) hHeld ?_
                        rotate_left
                        · intro w' hSw
                          have k0 := (hSw.cell (p := ⟨ba, oa + i * 4, none⟩) hba).trans a0
                          have k1 := (hSw.cell (p := ⟨ba, oa + i * 4 + 1, none⟩) hba).trans a1
                          have k2 := (hSw.cell (p := ⟨ba, oa + i * 4 + 2, none⟩) hba).trans a2
                          have k3 := (hSw.cell (p := ⟨ba, oa + i * 4 + 3, none⟩) hba).trans a3
                          have m0 := (hSw.cell (p := ⟨ba, oa + z * 4, none⟩) hba).trans g0
                          have m1 := (hSw.cell (p := ⟨ba, oa + z * 4 + 1, none⟩) hba).trans g1
                          have m2 := (hSw.cell (p := ⟨ba, oa + z * 4 + 2, none⟩) hba).trans g2
                          (go_simp <;> with_reducible rfl)
                        try simp only [Act.put, List.getElem_toArray, List.getElem_cons_succ, List.getElem_cons_zero, List.setIfInBounds_toArray, List.set_cons_zero, List.set_cons_succ]
                        refine wpAnyH_take (i := 28) (oi := _) (v := ?_) rfl (by kernel_rfl) (by kernel_rfl) (by kernel_rfl) (fun _ _ _ h => h) (Or.inl ⟨by rfl, ?_⟩) hHeld ?_
                        rotate_left
                        · intro w' hSw
                          (go_simp <;> with_reducible rfl)
                        try simp only [Act.put, List.getElem_toArray, List.getElem_cons_succ, List.getElem_cons_zero, List.setIfInBounds_toArray, List.set_cons_zero, List.set_cons_succ]
                        refine wpAnyH_take (i := 29) (oi := _) (v := ?_) rfl (by kernel_rfl) (by kernel_rfl) (by kernel_rfl) (fun _ _ _ h => h) (Or.inl ⟨by rfl, ?_⟩) hHeld ?_
                        rotate_left
                        · intro w' hSw
                          (go_simp <;> with_reducible rfl)
                        try simp only [Act.put, List.getElem_toArray, List.getElem_cons_succ, List.getElem_cons_zero, List.setIfInBounds_toArray, List.set_cons_zero, List.set_cons_succ]
                        refine wpAnyH_take (i := 30) (oi := _) (v := ?_) rfl (by kernel_rfl) (by kernel_rfl) (by kernel_rfl) (fun _ _ _ h => h) (Or.inl ⟨by rfl, ?_⟩) hHeld ?_
                        rotate_left
                        · intro w' hSw
                          (go_simp <;> with_reducible rfl)
                        try simp only [Act.put, List.getElem_toArray, List.getElem_cons_succ, List.getElem_cons_zero, List.setIfInBounds_toArray, List.set_cons_zero, List.set_cons_succ]
                        refine wpAnyH_done (by kernel_rfl) ?_ _
                        go_wp2
                        go_ret
                        exact ⟨by rw [HF.out]; rfl, bel_call hB0 (Nat.le_refl _) (bel_call hbz (Nat.le_refl _) B8)⟩
                    · have hin' : inA l F G = false := by rw [Bool.eq_false_iff]; intro h; have := (hinT G).1 h; omega
                      have e1 : decide (T < (G : Int) + 1) = true := decide_eq_true (by omega)
                      have e3 : decide ((F : Int) + 1 ≤ (G : Int) + 1) = true := decide_eq_true (by omega)
                      have e4 : decide (V ≤ T) = false := decide_eq_false (by omega)
                      have e5 : decide ((G : Int) + 1 ≤ (F : Int) + 1) = false := decide_eq_false (by omega)
                      have HK : Hid (∀ y, (hy : y < (arI l n).length) → y < z + 1 → inA l F (arI l n)[y] = true → ((arI l n)[y] : Int) + reachI (gt l (arI l n)[y]) ≤ T) := fun y hy hlt hin => (HFZ.out y hy hlt).elim (fun h => HT.out y hy h hin) (fun h => by rw [h] at hin ⊢; rw [hin'] at hin; cases hin)
                      have hh := fun w' => has_c ((F : Int) + 1) T F D G w' false (by rw [has_T]; exact hin')
                      generalize (F : Int) = Fi at *
                      generalize (G : Int) = Gi at *
                      have e1_ : decide (T ≤ Gi) = true := decide_eq_true (by simp at e1; omega)
                      have e3_ : decide (Fi ≤ Gi) = true := decide_eq_true (by simp at e3; omega)
                      have e5_ : decide (Gi ≤ Fi) = false := decide_eq_false (by simp at e5; omega)
                      as_aux_lemma =>
                        go_wp2
                        go_quiet (fail)
                        go_wp2
                        go_quiet (fail)
                        go_wp2
                        refine wp_region_held_drew (S := fun w' => Below wr.heap.size wr w') (by kernel_rfl) (by first | exact (bel_draws (bel_draws (Below.refl _ _) _) _).drew | exact (bel_draws (Below.refl _ _) _).drew) (fun hHeld => ?_)
                        refine wpAnyH_take (i := 0) (oi := _) (v := ?_) rfl (by kernel_rfl) (by kernel_rfl) (by kernel_rfl) (fun _ _ _ h => h) (Or.inl ⟨by rfl, ?_⟩) hHeld ?_
                        rotate_left
                        · intro w' hSw
                          (go_simp <;> with_reducible rfl)
                        try simp only [Act.put, List.getElem_toArray, List.getElem_cons_zero, List.setIfInBounds_toArray, List.set_cons_zero, List.set_cons_succ]
                        refine wpAnyH_take (i := 1) (oi := _) (v := ?_) rfl (by kernel_rfl) (by kernel_rfl) (by kernel_rfl) (fun _ _ _ h => h) (Or.inl ⟨by rfl, ?_⟩) hHeld ?_
                        rotate_left
                        · intro w' hSw
                          (go_simp <;> with_reducible rfl)
                        try simp only [Act.put, List.getElem_toArray, List.getElem_cons_succ, List.getElem_cons_zero, List.setIfInBounds_toArray, List.set_cons_zero, List.set_cons_succ]
                        refine wpAnyH_take (i := 2) (oi := _) (v := ?_) rfl (by kernel_rfl) (by kernel_rfl) (by kernel_rfl) (fun _ _ _ h => h) (Or.inl ⟨by rfl, ?_⟩) hHeld ?_
                        rotate_left
                        · intro w' hSw
                          (go_simp <;> with_reducible rfl)
                        try simp only [Act.put, List.getElem_toArray, List.getElem_cons_succ, List.getElem_cons_zero, List.setIfInBounds_toArray, List.set_cons_zero, List.set_cons_succ]
                        refine wpAnyH_take (i := 3) (oi := _) (v := undef) rfl (by kernel_rfl) (by kernel_rfl) (by kernel_rfl) (fun _ _ _ h => h) (Or.inr ⟨by rfl, rfl⟩) hHeld ?_
                        try simp only [Act.put, List.getElem_toArray, List.getElem_cons_succ, List.getElem_cons_zero, List.setIfInBounds_toArray, List.set_cons_zero, List.set_cons_succ]
                        refine wpAnyH_take (i := 4) (oi := _) (v := undef) rfl (by kernel_rfl) (by kernel_rfl) (by kernel_rfl) (fun _ _ _ h => h) (Or.inr ⟨by rfl, rfl⟩) hHeld ?_
                        try simp only [Act.put, List.getElem_toArray, List.getElem_cons_succ, List.getElem_cons_zero, List.setIfInBounds_toArray, List.set_cons_zero, List.set_cons_succ]
                        refine wpAnyH_take (i := 5) (oi := _) (v := ?_) rfl (by kernel_rfl) (by kernel_rfl) (by kernel_rfl) (fun _ _ _ h => h) (Or.inl ⟨by rfl, ?_⟩) hHeld ?_
                        rotate_left
                        · intro w' hSw
                          (go_simp <;> with_reducible rfl)
                        try simp only [Act.put, List.getElem_toArray, List.getElem_cons_succ, List.getElem_cons_zero, List.setIfInBounds_toArray, List.set_cons_zero, List.set_cons_succ]
                        refine wpAnyH_take (i := 6) (oi := _) (v := ?_) rfl (by kernel_rfl) (by kernel_rfl) (by kernel_rfl) (fun _ _ _ h => h) (Or.inl ⟨by rfl, ?_⟩) hHeld ?_
                        rotate_left
                        · intro w' hSw
                          (go_simp <;> with_reducible rfl)
                        try simp only [Act.put, List.getElem_toArray, List.getElem_cons_succ, List.getElem_cons_zero, List.setIfInBounds_toArray, List.set_cons_zero, List.set_cons_succ]
                        refine wpAnyH_take (i := 7) (oi := _) (v := ?_) rfl (by kernel_rfl) (by kernel_rfl) (by kernel_rfl) (fun _ _ _ h => h) (Or.inl ⟨by rfl, ?_⟩) hHeld ?_
                        rotate_left
                        · intro w' hSw
                          (go_simp <;> with_reducible rfl)
                        try simp only [Act.put, List.getElem_toArray, List.getElem_cons_succ, List.getElem_cons_zero, List.setIfInBounds_toArray, List.set_cons_zero, List.set_cons_succ]
                        refine wpAnyH_take (i := 8) (oi := _) (v := ?_) rfl (by kernel_rfl) (by kernel_rfl) (by kernel_rfl) (fun _ _ _ h => h) (Or.inl ⟨by rfl, ?_⟩) hHeld ?_
                        rotate_left
                        · intro w' hSw
                          (go_simp <;> with_reducible rfl)
                        try simp only [Act.put, List.getElem_toArray, List.getElem_cons_succ, List.getElem_cons_zero, List.setIfInBounds_toArray, List.set_cons_zero, List.set_cons_succ]
                        refine wpAnyH_take (i := 9) (oi := _) (v := ?_) rfl (by kernel_rfl) (by kernel_rfl) (by kernel_rfl) (fun _ _ _ h => h) (Or.inl ⟨by rfl, ?_⟩) hHeld ?_
                        rotate_left
                        · intro w' hSw
                          (go_simp <;> with_reducible rfl)
                        try simp only [Act.put, List.getElem_toArray, List.getElem_cons_succ, List.getElem_cons_zero, List.setIfInBounds_toArray, List.set_cons_zero, List.set_cons_succ]
                        refine wpAnyH_take (i := 10) (oi := _) (v := ?_) rfl (by kernel_rfl) (by kernel_rfl) (by kernel_rfl) (fun _ _ _ h => h) (Or.inl ⟨by rfl, ?_⟩) hHeld ?_
                        rotate_left
                        · intro w' hSw
                          have k0 := (hSw.cell (p := ⟨ba, oa + i * 4, none⟩) hba).trans a0
                          have k1 := (hSw.cell (p := ⟨ba, oa + i * 4 + 1, none⟩) hba).trans a1
                          have k2 := (hSw.cell (p := ⟨ba, oa + i * 4 + 2, none⟩) hba).trans a2
                          have k3 := (hSw.cell (p := ⟨ba, oa + i * 4 + 3, none⟩) hba).trans a3
                          have m0 := (hSw.cell (p := ⟨ba, oa + z * 4, none⟩) hba).trans g0
                          have m1 := (hSw.cell (p := ⟨ba, oa + z * 4 + 1, none⟩) hba).trans g1
                          have m2 := (hSw.cell (p := ⟨ba, oa + z * 4 + 2, none⟩) hba).trans g2
                          (go_simp <;> with_reducible rfl)
                        try simp only [Act.put, List.getElem_toArray, List.getElem_cons_succ, List.getElem_cons_zero, List.setIfInBounds_toArray, List.set_cons_zero, List.set_cons_succ]
                        refine wpAnyH_take (i := 11) (oi := _) (v := ?_) rfl (by kernel_rfl) (by kernel_rfl) (by kernel_rfl) (fun _ _ _ h => h) (Or.inl ⟨by rfl, ?_⟩) hHeld ?_
                        rotate_left
                        · intro w' hSw
                          (go_simp <;> with_reducible rfl)
                        try simp only [Act.put, List.getElem_toArray, List.getElem_cons_succ, List.getElem_cons_zero, List.setIfInBounds_toArray, List.set_cons_zero, List.set_cons_succ]
                        refine wpAnyH_take (i := 12) (oi := _) (v := ?_) rfl (by kernel_rfl) (by kernel_rfl) (by kernel_rfl) (fun _ _ _ h => h) (Or.inl ⟨by rfl, ?_⟩) hHeld ?_
                        rotate_left
                        · intro w' hSw
                          (go_simp <;> with_reducible rfl)
                        try simp only [Act.put, List.getElem_toArray, List.getElem_cons_succ, List.getElem_cons_zero, List.setIfInBounds_toArray, List.set_cons_zero, List.set_cons_succ]
                        refine wpAnyH_take (i := 13) (oi := _) (v := ?_) rfl (by kernel_rfl) (by kernel_rfl) (by kernel_rfl) (fun _ _ _ h => h) (Or.inl ⟨by rfl, ?_⟩) hHeld ?_
                        rotate_left
                        · intro w' hSw
                          (go_simp <;> with_reducible rfl)
                        try simp only [Act.put, List.getElem_toArray, List.getElem_cons_succ, List.getElem_cons_zero, List.setIfInBounds_toArray, List.set_cons_zero, List.set_cons_succ]
                        refine wpAnyH_take (i := 14) (oi := _) (v := ?_) rfl (by kernel_rfl) (by kernel_rfl) (by kernel_rfl) (fun _ _ _ h => h) (Or.inl ⟨by rfl, ?_⟩) hHeld ?_
                        rotate_left
                        · intro w' hSw
                          (go_simp <;> with_reducible rfl)
                        try simp only [Act.put, List.getElem_toArray, List.getElem_cons_succ, List.getElem_cons_zero, List.setIfInBounds_toArray, List.set_cons_zero, List.set_cons_succ]
                        refine wpAnyH_take (i := 15) (oi := _) (v := ?_) rfl (by kernel_rfl) (by kernel_rfl) (by kernel_rfl) (fun _ _ _ h => h) (Or.inl ⟨by rfl, ?_⟩) hHeld ?_
                        rotate_left
                        · intro w' hSw
                          have k0 := (hSw.cell (p := ⟨ba, oa + i * 4, none⟩) hba).trans a0
                          have k1 := (hSw.cell (p := ⟨ba, oa + i * 4 + 1, none⟩) hba).trans a1
                          have k2 := (hSw.cell (p := ⟨ba, oa + i * 4 + 2, none⟩) hba).trans a2
                          have k3 := (hSw.cell (p := ⟨ba, oa + i * 4 + 3, none⟩) hba).trans a3
                          have m0 := (hSw.cell (p := ⟨ba, oa + z * 4, none⟩) hba).trans g0
                          have m1 := (hSw.cell (p := ⟨ba, oa + z * 4 + 1, none⟩) hba).trans g1
                          have m2 := (hSw.cell (p := ⟨ba, oa + z * 4 + 2, none⟩) hba).trans g2
                          (go_simp <;> with_reducible rfl)
                        try simp only [Act.put, List.getElem_toArray, List.getElem_cons_succ, List.getElem_cons_zero, List.setIfInBounds_toArray, List.set_cons_zero, List.set_cons_succ]
                        refine wpAnyH_ready (rs := [16]) (by kernel_rfl) (by simp) ?_
                        refine AllReadyH.cons (o := _) rfl (fun K hK => ?_) AllReadyH.nil
                        go_simp
                        go_at_call 46
                        (with_reducible (refine (hh _).mono ?_))
                        rintro e w8 ⟨rfl, b8⟩
                        have B8 : Below wr.heap.size wr w8 := bel_call (by first | exact (bel_draws (bel_draws (Below.refl _ _) _) _).drew | exact (bel_draws (Below.refl _ _) _).drew) (Nat.le_refl _) b8
                        refine hK.out _ _ B8 (fun hHeld => ?_)
                        clear hK K
                        try simp only [Act.put, List.getElem_toArray, List.getElem_cons_succ, List.getElem_cons_zero, List.setIfInBounds_toArray, List.set_cons_zero, List.set_cons_succ]
                        refine wpAnyH_take (i := 17) (oi := _) (v := ?_) rfl (by kernel_rfl) (by kernel_rfl) (by kernel_rfl) (fun _ _ _ h => h) (Or.inl ⟨by rfl, ?_⟩) hHeld ?_
                        rotate_left
                        · intro w' hSw
                          (go_simp <;> with_reducible rfl)
                        try simp only [Act.put, List.getElem_toArray, List.getElem_cons_succ, List.getElem_cons_zero, List.setIfInBounds_toArray, List.set_cons_zero, List.set_cons_succ]
                        refine wpAnyH_take (i := 18) (oi := _) (v := undef) rfl (by kernel_rfl) (by kernel_rfl) (by kernel_rfl) (fun _ _ _ h => h) (Or.inr ⟨by rfl, rfl⟩) hHeld ?_
                        try simp only [Act.put, List.getElem_toArray, List.getElem_cons_succ, List.getElem_cons_zero, List.setIfInBounds_toArray, List.set_cons_zero, List.set_cons_succ]
                        refine wpAnyH_take (i := 19) (oi := _) (v := undef) rfl (by kernel_rfl) (by kernel_rfl) (by kernel_rfl) (fun _ _ _ h => h) (Or.inr ⟨by rfl, rfl⟩) hHeld ?_
                        try simp only [Act.put, List.getElem_toArray, List.getElem_cons_succ, List.getElem_cons_zero, List.setIfInBounds_toArray, List.set_cons_zero, List.set_cons_succ]
                        refine wpAnyH_take (i := 20) (oi := _) (v := undef) rfl (by kernel_rfl) (by kernel_rfl) (by kernel_rfl) (fun _ _ _ h => h) (Or.inr ⟨by rfl, rfl⟩) hHeld ?_
                        try simp only [Act.put, List.getElem_toArray, List.getElem_cons_succ, List.getElem_cons_zero, List.setIfInBounds_toArray, List.set_cons_zero, List.set_cons_succ]
                        refine wpAnyH_take (i := 21) (oi := _) (v := undef) rfl (by kernel_rfl) (by kernel_rfl) (by kernel_rfl) (fun _ _ _ h => h) (Or.inr ⟨by rfl, rfl⟩) hHeld ?_
                        try simp only [Act.put, List.getElem_toArray, List.getElem_cons_succ, List.getElem_cons_zero, List.setIfInBounds_toArray, List.set_cons_zero, List.set_cons_succ]
                        refine wpAnyH_take (i := 22) (oi := _) (v := undef) rfl (by kernel_rfl) (by kernel_rfl) (by kernel_rfl) (fun _ _ _ h => h) (Or.inr ⟨by rfl, rfl⟩) hHeld ?_
                        try simp only [Act.put, List.getElem_toArray, List.getElem_cons_succ, List.getElem_cons_zero, List.setIfInBounds_toArray, List.set_cons_zero, List.set_cons_succ]
                        refine wpAnyH_take (i := 23) (oi := _) (v := undef) rfl (by kernel_rfl) (by kernel_rfl) (by kernel_rfl) (fun _ _ _ h => h) (Or.inr ⟨by rfl, rfl⟩) hHeld ?_
                        try simp only [Act.put, List.getElem_toArray, List.getElem_cons_succ, List.getElem_cons_zero, List.setIfInBounds_toArray, List.set_cons_zero, List.set_cons_succ]
                        refine wpAnyH_take (i := 24) (oi := _) (v := undef) rfl (by kernel_rfl) (by kernel_rfl) (by kernel_rfl) (fun _ _ _ h => h) (Or.inr ⟨by rfl, rfl⟩) hHeld ?_
                        try simp only [Act.put, List.getElem_toArray, List.getElem_cons_succ, List.getElem_cons_zero, List.setIfInBounds_toArray, List.set_cons_zero, List.set_cons_succ]
                        refine wpAnyH_take (i := 25) (oi := _) (v := undef) rfl (by kernel_rfl) (by kernel_rfl) (by kernel_rfl) (fun _ _ _ h => h) (Or.inr ⟨by rfl, rfl⟩) hHeld ?_
                        try simp only [Act.put, List.getElem_toArray, List.getElem_cons_succ, List.getElem_cons_zero, List.setIfInBounds_toArray, List.set_cons_zero, List.set_cons_succ]
                        refine wpAnyH_take (i := 26) (oi := _) (v := undef) rfl (by kernel_rfl) (by kernel_rfl) (by kernel_rfl) (fun _ _ _ h => h) (Or.inr ⟨by rfl, rfl⟩) hHeld ?_
                        try simp only [Act.put, List.getElem_toArray, List.getElem_cons_succ, List.getElem_cons_zero, List.setIfInBounds_toArray, List.set_cons_zero, List.set_cons_succ]
                        refine wpAnyH_take (i := 27) (oi := _) (v := undef) rfl (by kernel_rfl) (by kernel_rfl) (by kernel_rfl) (fun _ _ _ h => h) (Or.inr ⟨by rfl, rfl⟩) hHeld ?_
                        try simp only [Act.put, List.getElem_toArray, List.getElem_cons_succ, List.getElem_cons_zero, List.setIfInBounds_toArray, List.set_cons_zero, List.set_cons_succ]
                        refine wpAnyH_take (i := 28) (oi := _) (v := undef) rfl (by kernel_rfl) (by kernel_rfl) (by kernel_rfl) (fun _ _ _ h => h) (Or.inr ⟨by rfl, rfl⟩) hHeld ?_
                        try simp only [Act.put, List.getElem_toArray, List.getElem_cons_succ, List.getElem_cons_zero, List.setIfInBounds_toArray, List.set_cons_zero, List.set_cons_succ]
                        refine wpAnyH_take (i := 29) (oi := _) (v := ?_) rfl (by kernel_rfl) (by kernel_rfl) (by kernel_rfl) (fun _ _ _ h => h) (Or.inl ⟨by rfl, ?_⟩) hHeld ?_
                        rotate_left
                        · intro w' hSw
                          (go_simp <;> with_reducible rfl)
                        try simp only [Act.put, List.getElem_toArray, List.getElem_cons_succ, List.getElem_cons_zero, List.setIfInBounds_toArray, List.set_cons_zero, List.set_cons_succ]
                        refine wpAnyH_take (i := 30) (oi := _) (v := ?_) rfl (by kernel_rfl) (by kernel_rfl) (by kernel_rfl) (fun _ _ _ h => h) (Or.inl ⟨by rfl, ?_⟩) hHeld ?_
                        rotate_left
                        · intro w' hSw
                          (go_simp <;> with_reducible rfl)
                        try simp only [Act.put, List.getElem_toArray, List.getElem_cons_succ, List.getElem_cons_zero, List.setIfInBounds_toArray, List.set_cons_zero, List.set_cons_succ]
                        refine wpAnyH_done (by kernel_rfl) ?_ _
                        go_wp2
                        go_roundw
                        case rel => exact ⟨z + 1, by omega, by go_num, HK, bel_call hbz (Nat.le_refl _) B8⟩
                        case measure => simp [intOf]; omega
                  · by_cases A2 : V < (F : Int) + 1
                    · have hin' : inA l F G = false := by rw [Bool.eq_false_iff]; intro h; have := (hinT G).1 h; omega
                      have e1 : decide (T < (G : Int) + 1) = false := decide_eq_false (by omega)
                      have e2 : decide (V < (F : Int) + 1) = true := decide_eq_true (by omega)
                      have e3 : decide ((F : Int) + 1 ≤ (G : Int) + 1) = false := decide_eq_false (by omega)
                      have e5 : decide ((G : Int) + 1 ≤ (F : Int) + 1) = true := decide_eq_true (by omega)
                      have e6 : decide (T ≤ V) = false := decide_eq_false (by omega)
                      have HK : Hid (∀ y, (hy : y < (arI l n).length) → y < z + 1 → inA l F (arI l n)[y] = true → ((arI l n)[y] : Int) + reachI (gt l (arI l n)[y]) ≤ T) := fun y hy hlt hin => (HFZ.out y hy hlt).elim (fun h => HT.out y hy h hin) (fun h => by rw [h] at hin ⊢; rw [hin'] at hin; cases hin)
                      have hh := fun w' => has_c ((F : Int) + 1) T F D G w' false (by rw [has_T]; exact hin')
                      generalize (F : Int) = Fi at *
                      generalize (G : Int) = Gi at *
                      have e1_ : decide (T ≤ Gi) = false := decide_eq_false (by simp at e1; omega)
                      have e2_ : decide (V ≤ Fi) = true := decide_eq_true (by simp at e2; omega)
                      have e3_ : decide (Fi ≤ Gi) = false := decide_eq_false (by simp at e3; omega)
                      have e5_ : decide (Gi ≤ Fi) = true := decide_eq_true (by simp at e5; omega)
                      as_aux_lemma =>
                        go_wp2
                        go_quiet (fail)
                        go_wp2
                        go_quiet (fail)
                        go_wp2
                        refine wp_region_held_drew (S := fun w' => Below wr.heap.size wr w') (by kernel_rfl) (by first | exact (bel_draws (bel_draws (Below.refl _ _) _) _).drew | exact (bel_draws (Below.refl _ _) _).drew) (fun hHeld => ?_)
                        refine wpAnyH_take (i := 0) (oi := _) (v := ?_) rfl (by kernel_rfl) (by kernel_rfl) (by kernel_rfl) (fun _ _ _ h => h) (Or.inl ⟨by rfl, ?_⟩) hHeld ?_
                        rotate_left
                        · intro w' hSw
                          (go_simp <;> with_reducible rfl)
                        try simp only [Act.put, List.getElem_toArray, List.getElem_cons_zero, List.setIfInBounds_toArray, List.set_cons_zero, List.set_cons_succ]
                        refine wpAnyH_take (i := 1) (oi := _) (v := ?_) rfl (by kernel_rfl) (by kernel_rfl) (by kernel_rfl) (fun _ _ _ h => h) (Or.inl ⟨by rfl, ?_⟩) hHeld ?_
                        rotate_left
                        · intro w' hSw
                          (go_simp <;> with_reducible rfl)
                        try simp only [Act.put, List.getElem_toArray, List.getElem_cons_succ, List.getElem_cons_zero, List.setIfInBounds_toArray, List.set_cons_zero, List.set_cons_succ]
                        refine wpAnyH_take (i := 2) (oi := _) (v := ?_) rfl (by kernel_rfl) (by kernel_rfl) (by kernel_rfl) (fun _ _ _ h => h) (Or.inl ⟨by rfl, ?_⟩) hHeld ?_
                        rotate_left
                        · intro w' hSw
                          (go_simp <;> with_reducible rfl)
                        try simp only [Act.put, List.getElem_toArray, List.getElem_cons_succ, List.getElem_cons_zero, List.setIfInBounds_toArray, List.set_cons_zero, List.set_cons_succ]
                        refine wpAnyH_take (i := 3) (oi := _) (v := undef) rfl (by kernel_rfl) (by kernel_rfl) (by kernel_rfl) (fun _ _ _ h => h) (Or.inr ⟨by rfl, rfl⟩) hHeld ?_
                        try simp only [Act.put, List.getElem_toArray, List.getElem_cons_succ, List.getElem_cons_zero, List.setIfInBounds_toArray, List.set_cons_zero, List.set_cons_succ]
                        refine wpAnyH_take (i := 4) (oi := _) (v := undef) rfl (by kernel_rfl) (by kernel_rfl) (by kernel_rfl) (fun _ _ _ h => h) (Or.inr ⟨by rfl, rfl⟩) hHeld ?_
                        try simp only [Act.put, List.getElem_toArray, List.getElem_cons_succ, List.getElem_cons_zero, List.setIfInBounds_toArray, List.set_cons_zero, List.set_cons_succ]
                        refine wpAnyH_take (i := 5) (oi := _) (v := ?_) rfl (by kernel_rfl) (by kernel_rfl) (by kernel_rfl) (fun _ _ _ h => h) (Or.inl ⟨by rfl, ?_⟩) hHeld ?_
                        rotate_left
                        · intro w' hSw
                          (go_simp <;> with_reducible rfl)
                        try simp only [Act.put, List.getElem_toArray, List.getElem_cons_succ, List.getElem_cons_zero, List.setIfInBounds_toArray, List.set_cons_zero, List.set_cons_succ]
                        refine wpAnyH_take (i := 6) (oi := _) (v := ?_) rfl (by kernel_rfl) (by kernel_rfl) (by kernel_rfl) (fun _ _ _ h => h) (Or.inl ⟨by rfl, ?_⟩) hHeld ?_
                        rotate_left
                        · intro w' hSw
                          (go_simp <;> with_reducible rfl)
                        try simp only [Act.put, List.getElem_toArray, List.getElem_cons_succ, List.getElem_cons_zero, List.setIfInBounds_toArray, List.set_cons_zero, List.set_cons_succ]
                        refine wpAnyH_take (i := 7) (oi := _) (v := ?_) rfl (by kernel_rfl) (by kernel_rfl) (by kernel_rfl) (fun _ _ _ h => h) (Or.inl ⟨by rfl, ?_⟩) hHeld ?_
                        rotate_left
                        · intro w' hSw
                          (go_simp <;> with_reducible rfl)
                        try simp only [Act.put, List.getElem_toArray, List.getElem_cons_succ, List.getElem_cons_zero, List.setIfInBounds_toArray, List.set_cons_zero, List.set_cons_succ]
                        refine wpAnyH_take (i := 8) (oi := _) (v := ?_) rfl (by kernel_rfl) (by kernel_rfl) (by kernel_rfl) (fun _ _ _ h => h) (Or.inl ⟨by rfl, ?_⟩) hHeld ?_
                        rotate_left
                        · intro w' hSw
                          (go_simp <;> with_reducible rfl)
                        try simp only [Act.put, List.getElem_toArray, List.getElem_cons_succ, List.getElem_cons_zero, List.setIfInBounds_toArray, List.set_cons_zero, List.set_cons_succ]
                        refine wpAnyH_take (i := 9) (oi := _) (v := ?_) rfl (by kernel_rfl) (by kernel_rfl) (by kernel_rfl) (fun _ _ _ h => h) (Or.inl ⟨by rfl, ?_⟩) hHeld ?_
                        rotate_left
                        · intro w' hSw
                          (go_simp <;> with_reducible rfl)
                        try simp only [Act.put, List.getElem_toArray, List.getElem_cons_succ, List.getElem_cons_zero, List.setIfInBounds_toArray, List.set_cons_zero, List.set_cons_succ]
                        refine wpAnyH_take (i := 10) (oi := _) (v := ?_) rfl (by kernel_rfl) (by kernel_rfl) (by kernel_rfl) (fun _ _ _ h => h) (Or.inl ⟨by rfl, ?_⟩) hHeld ?_
                        rotate_left
                        · intro w' hSw
                          have k0 := (hSw.cell (p := ⟨ba, oa + i * 4, none⟩) hba).trans a0
                          have k1 := (hSw.cell (p := ⟨ba, oa + i * 4 + 1, none⟩) hba).trans a1
                          have k2 := (hSw.cell (p := ⟨ba, oa + i * 4 + 2, none⟩) hba).trans a2
                          have k3 := (hSw.cell (p := ⟨ba, oa + i * 4 + 3, none⟩) hba).trans a3
                          have m0 := (hSw.cell (p := ⟨ba, oa + z * 4, none⟩) hba).trans g0
                          have m1 := (hSw.cell (p := ⟨ba, oa + z * 4 + 1, none⟩) hba).trans g1
                          have m2 := (hSw.cell (p := ⟨ba, oa + z * 4 + 2, none⟩) hba).trans g2
                          (go_simp <;> with_reducible rfl)
                        try simp only [Act.put, List.getElem_toArray, List.getElem_cons_succ, List.getElem_cons_zero, List.setIfInBounds_toArray, List.set_cons_zero, List.set_cons_succ]
                        refine wpAnyH_take (i := 11) (oi := _) (v := ?_) rfl (by kernel_rfl) (by kernel_rfl) (by kernel_rfl) (fun _ _ _ h => h) (Or.inl ⟨by rfl, ?_⟩) hHeld ?_
                        rotate_left
                        · intro w' hSw
                          (go_simp <;> with_reducible rfl)
                        try simp only [Act.put, List.getElem_toArray, List.getElem_cons_succ, List.getElem_cons_zero, List.setIfInBounds_toArray, List.set_cons_zero, List.set_cons_succ]
                        refine wpAnyH_take (i := 12) (oi := _) (v := ?_) rfl (by kernel_rfl) (by kernel_rfl) (by kernel_rfl) (fun _ _ _ h => h) (Or.inl ⟨by rfl, ?_⟩) hHeld ?_
                        rotate_left
                        · intro w' hSw
                          (go_simp <;> with_reducible rfl)
                        try simp only [Act.put, List.getElem_toArray, List.getElem_cons_succ, List.getElem_cons_zero, List.setIfInBounds_toArray, List.set_cons_zero, List.set_cons_succ]
                        refine wpAnyH_take (i := 13) (oi := _) (v := ?_) rfl (by kernel_rfl) (by kernel_rfl) (by kernel_rfl) (fun _ _ _ h => h) (Or.inl ⟨by rfl, ?_⟩) hHeld ?_
                        rotate_left
                        · intro w' hSw
                          (go_simp <;> with_reducible rfl)
                        try simp only [Act.put, List.getElem_toArray, List.getElem_cons_succ, List.getElem_cons_zero, List.setIfInBounds_toArray, List.set_cons_zero, List.set_cons_succ]
                        refine wpAnyH_take (i := 14) (oi := _) (v := ?_) rfl (by kernel_rfl) (by kernel_rfl) (by kernel_rfl) (fun _ _ _ h => h) (Or.inl ⟨by rfl, ?_⟩) hHeld ?_
                        rotate_left
                        · intro w' hSw
                          (go_simp <;> with_reducible rfl)
                        try simp only [Act.put, List.getElem_toArray, List.getElem_cons_succ, List.getElem_cons_zero, List.setIfInBounds_toArray, List.set_cons_zero, List.set_cons_succ]
                        refine wpAnyH_take (i := 15) (oi := _) (v := ?_) rfl (by kernel_rfl) (by kernel_rfl) (by kernel_rfl) (fun _ _ _ h => h) (Or.inl ⟨by rfl, ?_⟩) hHeld ?_
                        rotate_left
                        · intro w' hSw
                          have k0 := (hSw.cell (p := ⟨ba, oa + i * 4, none⟩) hba).trans a0
                          have k1 := (hSw.cell (p := ⟨ba, oa + i * 4 + 1, none⟩) hba).trans a1
                          have k2 := (hSw.cell (p := ⟨ba, oa + i * 4 + 2, none⟩) hba).trans a2
                          have k3 := (hSw.cell (p := ⟨ba, oa + i * 4 + 3, none⟩) hba).trans a3
                          have m0 := (hSw.cell (p := ⟨ba, oa + z * 4, none⟩) hba).trans g0
                          have m1 := (hSw.cell (p := ⟨ba, oa + z * 4 + 1, none⟩) hba).trans g1
                          have m2 := (hSw.cell (p := ⟨ba, oa + z * 4 + 2, none⟩) hba).trans g2
                          (go_simp <;> with_reducible rfl)
                        try simp only [Act.put, List.getElem_toArray, List.getElem_cons_succ, List.getElem_cons_zero, List.setIfInBounds_toArray, List.set_cons_zero, List.set_cons_succ]
                        refine wpAnyH_ready (rs := [16]) (by kernel_rfl) (by simp) ?_
                        refine AllReadyH.cons (o := _) rfl (fun K hK => ?_) AllReadyH.nil
                        go_simp
                        go_at_call 46
                        (with_reducible (refine (hh _).mono ?_))
                        rintro e w8 ⟨rfl, b8⟩
                        have B8 : Below wr.heap.size wr w8 := bel_call (by first | exact (bel_draws (bel_draws (Below.refl _ _) _) _).drew | exact (bel_draws (Below.refl _ _) _).drew) (Nat.le_refl _) b8
                        refine hK.out _ _ B8 (fun hHeld => ?_)
                        clear hK K
                        try simp only [Act.put, List.getElem_toArray, List.getElem_cons_succ, List.getElem_cons_zero, List.setIfInBounds_toArray, List.set_cons_zero, List.set_cons_succ]
                        refine wpAnyH_take (i := 17) (oi := _) (v := ?_) rfl (by kernel_rfl) (by kernel_rfl) (by kernel_rfl) (fun _ _ _ h => h) (Or.inl ⟨by rfl, ?_⟩) hHeld ?_
                        rotate_left
                        · intro w' hSw
                          (go_simp <;> with_reducible rfl)
                        try simp only [Act.put, List.getElem_toArray, List.getElem_cons_succ, List.getElem_cons_zero, List.setIfInBounds_toArray, List.set_cons_zero, List.set_cons_succ]
                        refine wpAnyH_take (i := 18) (oi := _) (v := undef) rfl (by kernel_rfl) (by kernel_rfl) (by kernel_rfl) (fun _ _ _ h => h) (Or.inr ⟨by rfl, rfl⟩) hHeld ?_
                        try simp only [Act.put, List.getElem_toArray, List.getElem_cons_succ, List.getElem_cons_zero, List.setIfInBounds_toArray, List.set_cons_zero, List.set_cons_succ]
                        refine wpAnyH_take (i := 19) (oi := _) (v := undef) rfl (by kernel_rfl) (by kernel_rfl) (by kernel_rfl) (fun _ _ _ h => h) (Or.inr ⟨by rfl, rfl⟩) hHeld ?_
                        try simp only [Act.put, List.getElem_toArray, List.getElem_cons_succ, List.getElem_cons_zero, List.setIfInBounds_toArray, List.set_cons_zero, List.set_cons_succ]
                        refine wpAnyH_take (i := 20) (oi := _) (v := undef) rfl (by kernel_rfl) (by kernel_rfl) (by kernel_rfl) (fun _ _ _ h => h) (Or.inr ⟨by rfl, rfl⟩) hHeld ?_
                        try simp only [Act.put, List.getElem_toArray, List.getElem_cons_succ, List.getElem_cons_zero, List.setIfInBounds_toArray, List.set_cons_zero, List.set_cons_succ]
                        refine wpAnyH_take (i := 21) (oi := _) (v := undef) rfl (by kernel_rfl) (by kernel_rfl) (by kernel_rfl) (fun _ _ _ h => h) (Or.inr ⟨by rfl, rfl⟩) hHeld ?_
                        try simp only [Act.put, List.getElem_toArray, List.getElem_cons_succ, List.getElem_cons_zero, List.setIfInBounds_toArray, List.set_cons_zero, List.set_cons_succ]
                        refine wpAnyH_take (i := 22) (oi := _) (v := undef) rfl (by kernel_rfl) (by kernel_rfl) (by kernel_rfl) (fun _ _ _ h => h) (Or.inr ⟨by rfl, rfl⟩) hHeld ?_
                        try simp only [Act.put, List.getElem_toArray, List.getElem_cons_succ, List.getElem_cons_zero, List.setIfInBounds_toArray, List.set_cons_zero, List.set_cons_succ]
                        refine wpAnyH_take (i := 23) (oi := _) (v := undef) rfl (by kernel_rfl) (by kernel_rfl) (by kernel_rfl) (fun _ _ _ h => h) (Or.inr ⟨by rfl, rfl⟩) hHeld ?_
                        try simp only [Act.put, List.getElem_toArray, List.getElem_cons_succ, List.getElem_cons_zero, List.setIfInBounds_toArray, List.set_cons_zero, List.set_cons_succ]
                        refine wpAnyH_take (i := 24) (oi := _) (v := undef) rfl (by kernel_rfl) (by kernel_rfl) (by kernel_rfl) (fun _ _ _ h => h) (Or.inr ⟨by rfl, rfl⟩) hHeld ?_
                        try simp only [Act.put, List.getElem_toArray, List.getElem_cons_succ, List.getElem_cons_zero, List.setIfInBounds_toArray, List.set_cons_zero, List.set_cons_succ]
                        refine wpAnyH_take (i := 25) (oi := _) (v := undef) rfl (by kernel_rfl) (by kernel_rfl) (by kernel_rfl) (fun _ _ _ h => h) (Or.inr ⟨by rfl, rfl⟩) hHeld ?_
                        try simp only [Act.put, List.getElem_toArray, List.getElem_cons_succ, List.getElem_cons_zero, List.setIfInBounds_toArray, List.set_cons_zero, List.set_cons_succ]
                        refine wpAnyH_take (i := 26) (oi := _) (v := undef) rfl (by kernel_rfl) (by kernel_rfl) (by kernel_rfl) (fun _ _ _ h => h) (Or.inr ⟨by rfl, rfl⟩) hHeld ?_
                        try simp only [Act.put, List.getElem_toArray, List.getElem_cons_succ, List.getElem_cons_zero, List.setIfInBounds_toArray, List.set_cons_zero, List.set_cons_succ]
                        refine wpAnyH_take (i := 27) (oi := _) (v := undef) rfl (by kernel_rfl) (by kernel_rfl) (by kernel_rfl) (fun _ _ _ h => h) (Or.inr ⟨by rfl, rfl⟩) hHeld ?_
                        try simp only [Act.put, List.getElem_toArray, List.getElem_cons_succ, List.getElem_cons_zero, List.setIfInBounds_toArray, List.set_cons_zero, List.set_cons_succ]
                        refine wpAnyH_take (i := 28) (oi := _) (v := undef) rfl (by kernel_rfl) (by kernel_rfl) (by kernel_rfl) (fun _ _ _ h => h) (Or.inr ⟨by rfl, rfl⟩) hHeld ?_
                        try simp only [Act.put, List.getElem_toArray, List.getElem_cons_succ, List.getElem_cons_zero, List.setIfInBounds_toArray, List.set_cons_zero, List.set_cons_succ]
                        refine wpAnyH_take (i := 29) (oi := _) (v := ?_) rfl (by kernel_rfl) (by kernel_rfl) (by kernel_rfl) (fun _ _ _ h => h) (Or.inl ⟨by rfl, ?_⟩) hHeld ?_
                        rotate_left
                        · intro w' hSw
                          (go_simp <;> with_reducible rfl)
                        try simp only [Act.put, List.getElem_toArray, List.getElem_cons_succ, List.getElem_cons_zero, List.setIfInBounds_toArray, List.set_cons_zero, List.set_cons_succ]
                        refine wpAnyH_take (i := 30) (oi := _) (v := ?_) rfl (by kernel_rfl) (by kernel_rfl) (by kernel_rfl) (fun _ _ _ h => h) (Or.inl ⟨by rfl, ?_⟩) hHeld ?_
                        rotate_left
                        · intro w' hSw
                          (go_simp <;> with_reducible rfl)
                        try simp only [Act.put, List.getElem_toArray, List.getElem_cons_succ, List.getElem_cons_zero, List.setIfInBounds_toArray, List.set_cons_zero, List.set_cons_succ]
                        refine wpAnyH_done (by kernel_rfl) ?_ _
                        go_wp2
                        go_roundw
                        case rel => exact ⟨z + 1, by omega, by go_num, HK, bel_call hbz (Nat.le_refl _) B8⟩
                        case measure => simp [intOf]; omega
                    · by_cases B0 : (F : Int) < G
                      · by_cases B1 : V ≤ T
                        · have hin : inA l F G = true := (hinT G).2 (by omega)
                          have e1 : decide (T < (G : Int) + 1) = false := decide_eq_false (by omega)
                          have e2 : decide (V < (F : Int) + 1) = false := decide_eq_false (by omega)
                          have e3 : decide ((F : Int) + 1 ≤ (G : Int) + 1) = true := decide_eq_true (by omega)
                          have e4 : decide (V ≤ T) = true := decide_eq_true (by omega)
                          have e7 : decide (T < V) = false := decide_eq_false (by omega)
                          have HK : Hid (∀ y, (hy : y < (arI l n).length) → y < z + 1 → inA l F (arI l n)[y] = true → ((arI l n)[y] : Int) + reachI (gt l (arI l n)[y]) ≤ T) := fun y hy hlt hin => (HFZ.out y hy hlt).elim (fun h => HT.out y hy h hin) (fun h => by rw [h] at hin ⊢; rw [HVV.out]; omega)
                          have hh := fun w' => has_c ((F : Int) + 1) T F D G w' true (by rw [has_T]; exact hin)
                          generalize (F : Int) = Fi at *
                          generalize (G : Int) = Gi at *
                          have e1_ : decide (T ≤ Gi) = false := decide_eq_false (by simp at e1; omega)
                          have e2_ : decide (V ≤ Fi) = false := decide_eq_false (by simp at e2; omega)
                          have e3_ : decide (Fi ≤ Gi) = true := decide_eq_true (by simp at e3; omega)
                          as_aux_lemma =>
                            go_wp2
                            go_quiet (fail)
                            go_wp2
                            go_quiet (fail)
                            go_wp2
                            refine wp_region_held_drew (S := fun w' => Below wr.heap.size wr w') (by kernel_rfl) (by first | exact (bel_draws (bel_draws (Below.refl _ _) _) _).drew | exact (bel_draws (Below.refl _ _) _).drew) (fun hHeld => ?_)
                            refine wpAnyH_take (i := 0) (oi := _) (v := ?_) rfl (by kernel_rfl) (by kernel_rfl) (by kernel_rfl) (fun _ _ _ h => h) (Or.inl ⟨by rfl, ?_⟩) hHeld ?_
                            rotate_left
                            · intro w' hSw
                              (go_simp <;> with_reducible rfl)
                            try simp only [Act.put, List.getElem_toArray, List.getElem_cons_zero, List.setIfInBounds_toArray, List.set_cons_zero, List.set_cons_succ]
                            refine wpAnyH_take (i := 1) (oi := _) (v := ?_) rfl (by kernel_rfl) (by kernel_rfl) (by kernel_rfl) (fun _ _ _ h => h) (Or.inl ⟨by rfl, ?_⟩) hHeld ?_
                            rotate_left
                            · intro w' hSw
                              (go_simp <;> with_reducible rfl)
                            try simp only [Act.put, List.getElem_toArray, List.getElem_cons_succ, List.getElem_cons_zero, List.setIfInBounds_toArray, List.set_cons_zero, List.set_cons_succ]
                            refine wpAnyH_take (i := 2) (oi := _) (v := ?_) rfl (by kernel_rfl) (by kernel_rfl) (by kernel_rfl) (fun _ _ _ h => h) (Or.inl ⟨by rfl, ?_⟩) hHeld ?_
                            rotate_left
                            · intro w' hSw
                              (go_simp <;> with_reducible rfl)
                            try simp only [Act.put, List.getElem_toArray, List.getElem_cons_succ, List.getElem_cons_zero, List.setIfInBounds_toArray, List.set_cons_zero, List.set_cons_succ]
                            refine wpAnyH_take (i := 3) (oi := _) (v := ?_) rfl (by kernel_rfl) (by kernel_rfl) (by kernel_rfl) (fun _ _ _ h => h) (Or.inl ⟨by rfl, ?_⟩) hHeld ?_
                            rotate_left
                            · intro w' hSw
                              (go_simp <;> with_reducible rfl)
                            try simp only [Act.put, List.getElem_toArray, List.getElem_cons_succ, List.getElem_cons_zero, List.setIfInBounds_toArray, List.set_cons_zero, List.set_cons_succ]
                            refine wpAnyH_take (i := 4) (oi := _) (v := ?_) rfl (by kernel_rfl) (by kernel_rfl) (by kernel_rfl) (fun _ _ _ h => h) (Or.inl ⟨by rfl, ?_⟩) hHeld ?_
                            rotate_left
                            · intro w' hSw
                              (go_simp <;> with_reducible rfl)
                            try simp only [Act.put, List.getElem_toArray, List.getElem_cons_succ, List.getElem_cons_zero, List.setIfInBounds_toArray, List.set_cons_zero, List.set_cons_succ]
                            refine wpAnyH_take (i := 5) (oi := _) (v := ?_) rfl (by kernel_rfl) (by kernel_rfl) (by kernel_rfl) (fun _ _ _ h => h) (Or.inl ⟨by rfl, ?_⟩) hHeld ?_
                            rotate_left
                            · intro w' hSw
                              (go_simp <;> with_reducible rfl)
                            try simp only [Act.put, List.getElem_toArray, List.getElem_cons_succ, List.getElem_cons_zero, List.setIfInBounds_toArray, List.set_cons_zero, List.set_cons_succ]
                            refine wpAnyH_take (i := 6) (oi := _) (v := ?_) rfl (by kernel_rfl) (by kernel_rfl) (by kernel_rfl) (fun _ _ _ h => h) (Or.inl ⟨by rfl, ?_⟩) hHeld ?_
                            rotate_left
                            · intro w' hSw
                              (go_simp <;> with_reducible rfl)
                            try simp only [Act.put, List.getElem_toArray, List.getElem_cons_succ, List.getElem_cons_zero, List.setIfInBounds_toArray, List.set_cons_zero, List.set_cons_succ]
                            refine wpAnyH_take (i := 7) (oi := _) (v := ?_) rfl (by kernel_rfl) (by kernel_rfl) (by kernel_rfl) (fun _ _ _ h => h) (Or.inl ⟨by rfl, ?_⟩) hHeld ?_
                            rotate_left
                            · intro w' hSw
                              (go_simp <;> with_reducible rfl)
                            try simp only [Act.put, List.getElem_toArray, List.getElem_cons_succ, List.getElem_cons_zero, List.setIfInBounds_toArray, List.set_cons_zero, List.set_cons_succ]
                            refine wpAnyH_take (i := 8) (oi := _) (v := ?_) rfl (by kernel_rfl) (by kernel_rfl) (by kernel_rfl) (fun _ _ _ h => h) (Or.inl ⟨by rfl, ?_⟩) hHeld ?_
                            rotate_left
                            · intro w' hSw
                              (go_simp <;> with_reducible rfl)
                            try simp only [Act.put, List.getElem_toArray, List.getElem_cons_succ, List.getElem_cons_zero, List.setIfInBounds_toArray, List.set_cons_zero, List.set_cons_succ]
                            refine wpAnyH_take (i := 9) (oi := _) (v := ?_) rfl (by kernel_rfl) (by kernel_rfl) (by kernel_rfl) (fun _ _ _ h => h) (Or.inl ⟨by rfl, ?_⟩) hHeld ?_
                            rotate_left
                            · intro w' hSw
                              (go_simp <;> with_reducible rfl)
                            try simp only [Act.put, List.getElem_toArray, List.getElem_cons_succ, List.getElem_cons_zero, List.setIfInBounds_toArray, List.set_cons_zero, List.set_cons_succ]
                            refine wpAnyH_take (i := 10) (oi := _) (v := ?_) rfl (by kernel_rfl) (by kernel_rfl) (by kernel_rfl) (fun _ _ _ h => h) (Or.inl ⟨by rfl, ?_⟩) hHeld ?_
                            rotate_left
                            · intro w' hSw
                              have k0 := (hSw.cell (p := ⟨ba, oa + i * 4, none⟩) hba).trans a0
                              have k1 := (hSw.cell (p := ⟨ba, oa + i * 4 + 1, none⟩) hba).trans a1
                              have k2 := (hSw.cell (p := ⟨ba, oa + i * 4 + 2, none⟩) hba).trans a2
                              have k3 := (hSw.cell (p := ⟨ba, oa + i * 4 + 3, none⟩) hba).trans a3
                              have m0 := (hSw.cell (p := ⟨ba, oa + z * 4, none⟩) hba).trans g0
                              have m1 := (hSw.cell (p := ⟨ba, oa + z * 4 + 1, none⟩) hba).trans g1
                              have m2 := (hSw.cell (p := ⟨ba, oa + z * 4 + 2, none⟩) hba).trans g2
                              (go_simp <;> with_reducible rfl)
                            try simp only [Act.put, List.getElem_toArray, List.getElem_cons_succ, List.getElem_cons_zero, List.setIfInBounds_toArray, List.set_cons_zero, List.set_cons_succ]
                            refine wpAnyH_take (i := 11) (oi := _) (v := ?_) rfl (by kernel_rfl) (by kernel_rfl) (by kernel_rfl) (fun _ _ _ h => h) (Or.inl ⟨by rfl, ?_⟩) hHeld ?_
                            rotate_left
                            · intro w' hSw
                              (go_simp <;> with_reducible rfl)
                            try simp only [Act.put, List.getElem_toArray, List.getElem_cons_succ, List.getElem_cons_zero, List.setIfInBounds_toArray, List.set_cons_zero, List.set_cons_succ]
                            refine wpAnyH_take (i := 12) (oi := _) (v := ?_) rfl (by kernel_rfl) (by kernel_rfl) (by kernel_rfl) (fun _ _ _ h => h) (Or.inl ⟨by rfl, ?_⟩) hHeld ?_
                            rotate_left
                            · intro w' hSw
                              (go_simp <;> with_reducible rfl)
                            try simp only [Act.put, List.getElem_toArray, List.getElem_cons_succ, List.getElem_cons_zero, List.setIfInBounds_toArray, List.set_cons_zero, List.set_cons_succ]
                            refine wpAnyH_take (i := 13) (oi := _) (v := ?_) rfl (by kernel_rfl) (by kernel_rfl) (by kernel_rfl) (fun _ _ _ h => h) (Or.inl ⟨by rfl, ?_⟩) hHeld ?_
                            rotate_left
                            · intro w' hSw
                              (go_simp <;> with_reducible rfl)
                            try simp only [Act.put, List.getElem_toArray, List.getElem_cons_succ, List.getElem_cons_zero, List.setIfInBounds_toArray, List.set_cons_zero, List.set_cons_succ]
                            refine wpAnyH_take (i := 14) (oi := _) (v := ?_) rfl (by kernel_rfl) (by kernel_rfl) (by kernel_rfl) (fun _ _ _ h => h) (Or.inl ⟨by rfl, ?_⟩) hHeld ?_
                            rotate_left
                            · intro w' hSw
                              (go_simp <;> with_reducible rfl)
                            try simp only [Act.put, List.getElem_toArray, List.getElem_cons_succ, List.getElem_cons_zero, List.setIfInBounds_toArray, List.set_cons_zero, List.set_cons_succ]
                            refine wpAnyH_take (i := 15) (oi := _) (v := ?_) rfl (by kernel_rfl) (by kernel_rfl) (by kernel_rfl) (fun _ _ _ h => h) (Or.inl ⟨by rfl, ?_⟩) hHeld ?_
                            rotate_left
                            · intro w' hSw
                              have k0 := (hSw.cell (p := ⟨ba, oa + i * 4, none⟩) hba).trans a0
                              have k1 := (hSw.cell (p := ⟨ba, oa + i * 4 + 1, none⟩) hba).trans a1
                              have k2 := (hSw.cell (p := ⟨ba, oa + i * 4 + 2, none⟩) hba).trans a2
                              have k3 := (hSw.cell (p := ⟨ba, oa + i * 4 + 3, none⟩) hba).trans a3
                              have m0 := (hSw.cell (p := ⟨ba, oa + z * 4, none⟩) hba).trans g0
                              have m1 := (hSw.cell (p := ⟨ba, oa + z * 4 + 1, none⟩) hba).trans g1
                              have m2 := (hSw.cell (p := ⟨ba, oa + z * 4 + 2, none⟩) hba).trans g2
                              (go_simp <;> with_reducible rfl)
                            try simp only [Act.put, List.getElem_toArray, List.getElem_cons_succ, List.getElem_cons_zero, List.setIfInBounds_toArray, List.set_cons_zero, List.set_cons_succ]
                            refine wpAnyH_ready (rs := [16]) (by kernel_rfl) (by simp) ?_
                            refine AllReadyH.cons (o := _) rfl (fun K hK => ?_) AllReadyH.nil
                            go_simp
                            go_at_call 46
                            (with_reducible (refine (hh _).mono ?_))
                            rintro e w8 ⟨rfl, b8⟩
                            have B8 : Below wr.heap.size wr w8 := bel_call (by first | exact (bel_draws (bel_draws (Below.refl _ _) _) _).drew | exact (bel_draws (Below.refl _ _) _).drew) (Nat.le_refl _) b8
                            refine hK.out _ _ B8 (fun hHeld => ?_)
                            clear hK K
                            try simp only [Act.put, List.getElem_toArray, List.getElem_cons_succ, List.getElem_cons_zero, List.setIfInBounds_toArray, List.set_cons_zero, List.set_cons_succ]
                            refine wpAnyH_take (i := 17) (oi := _) (v := ?_) rfl (by kernel_rfl) (by kernel_rfl) (by kernel_rfl) (fun _ _ _ h => h) (Or.inl ⟨by rfl, ?_⟩) hHeld ?_
                            rotate_left
                            · intro w' hSw
                              (go_simp <;> with_reducible rfl)
                            try simp only [Act.put, List.getElem_toArray, List.getElem_cons_succ, List.getElem_cons_zero, List.setIfInBounds_toArray, List.set_cons_zero, List.set_cons_succ]
                            refine wpAnyH_take (i := 18) (oi := _) (v := ?_) rfl (by kernel_rfl) (by kernel_rfl) (by kernel_rfl) (fun _ _ _ h => h) (Or.inl ⟨by rfl, ?_⟩) hHeld ?_
                            rotate_left
                            · intro w' hSw
                              (go_simp <;> with_reducible rfl)
                            try simp only [Act.put, List.getElem_toArray, List.getElem_cons_succ, List.getElem_cons_zero, List.setIfInBounds_toArray, List.set_cons_zero, List.set_cons_succ]
                            refine wpAnyH_take (i := 19) (oi := _) (v := ?_) rfl (by kernel_rfl) (by kernel_rfl) (by kernel_rfl) (fun _ _ _ h => h) (Or.inl ⟨by rfl, ?_⟩) hHeld ?_
                            rotate_left
                            · intro w' hSw
                              (go_simp <;> with_reducible rfl)
                            try simp only [Act.put, List.getElem_toArray, List.getElem_cons_succ, List.getElem_cons_zero, List.setIfInBounds_toArray, List.set_cons_zero, List.set_cons_succ]
                            refine wpAnyH_take (i := 20) (oi := _) (v := ?_) rfl (by kernel_rfl) (by kernel_rfl) (by kernel_rfl) (fun _ _ _ h => h) (Or.inl ⟨by rfl, ?_⟩) hHeld ?_
                            rotate_left
                            · intro w' hSw
                              (go_simp <;> with_reducible rfl)
                            try simp only [Act.put, List.getElem_toArray, List.getElem_cons_succ, List.getElem_cons_zero, List.setIfInBounds_toArray, List.set_cons_zero, List.set_cons_succ]
                            refine wpAnyH_take (i := 21) (oi := _) (v := ?_) rfl (by kernel_rfl) (by kernel_rfl) (by kernel_rfl) (fun _ _ _ h => h) (Or.inl ⟨by rfl, ?_⟩) hHeld ?_
                            rotate_left
                            · intro w' hSw
                              (go_simp <;> with_reducible rfl)
                            try simp only [Act.put, List.getElem_toArray, List.getElem_cons_succ, List.getElem_cons_zero, List.setIfInBounds_toArray, List.set_cons_zero, List.set_cons_succ]
                            refine wpAnyH_take (i := 22) (oi := _) (v := ?_) rfl (by kernel_rfl) (by kernel_rfl) (by kernel_rfl) (fun _ _ _ h => h) (Or.inl ⟨by rfl, ?_⟩) hHeld ?_
                            rotate_left
                            · intro w' hSw
                              have k0 := (hSw.cell (p := ⟨ba, oa + i * 4, none⟩) hba).trans a0
                              have k1 := (hSw.cell (p := ⟨ba, oa + i * 4 + 1, none⟩) hba).trans a1
                              have k2 := (hSw.cell (p := ⟨ba, oa + i * 4 + 2, none⟩) hba).trans a2
                              have k3 := (hSw.cell (p := ⟨ba, oa + i * 4 + 3, none⟩) hba).trans a3
                              have m0 := (hSw.cell (p := ⟨ba, oa + z * 4, none⟩) hba).trans g0
                              have m1 := (hSw.cell (p := ⟨ba, oa + z * 4 + 1, none⟩) hba).trans g1
                              have m2 := (hSw.cell (p := ⟨ba, oa + z * 4 + 2, none⟩) hba).trans g2
                              (go_simp <;> with_reducible rfl)
                            try simp only [Act.put, List.getElem_toArray, List.getElem_cons_succ, List.getElem_cons_zero, List.setIfInBounds_toArray, List.set_cons_zero, List.set_cons_succ]
                            refine wpAnyH_take (i := 23) (oi := _) (v := ?_) rfl (by kernel_rfl) (by kernel_rfl) (by kernel_rfl) (fun _ _ _ h => h) (Or.inl ⟨by rfl, ?_⟩) hHeld ?_
                            rotate_left
                            · intro w' hSw
                              (go_simp <;> with_reducible rfl)
                            try simp only [Act.put, List.getElem_toArray, List.getElem_cons_succ, List.getElem_cons_zero, List.setIfInBounds_toArray, List.set_cons_zero, List.set_cons_succ]
                            refine wpAnyH_take (i := 24) (oi := _) (v := ?_) rfl (by kernel_rfl) (by kernel_rfl) (by kernel_rfl) (fun _ _ _ h => h) (Or.inl ⟨by rfl, ?_⟩) hHeld ?_
                            rotate_left
                            · intro w' hSw
                              (go_simp <;> with_reducible rfl)
                            try simp only [Act.put, List.getElem_toArray, List.getElem_cons_succ, List.getElem_cons_zero, List.setIfInBounds_toArray, List.set_cons_zero, List.set_cons_succ]
                            refine wpAnyH_take (i := 25) (oi := _) (v := ?_) rfl (by kernel_rfl) (by kernel_rfl) (by kernel_rfl) (fun _ _ _ h => h) (Or.inl ⟨by rfl, ?_⟩) hHeld ?_
                            rotate_left
                            · intro w' hSw
                              (go_simp <;> with_reducible rfl)
                            try simp only [Act.put, List.getElem_toArray, List.getElem_cons_succ, List.getElem_cons_zero, List.setIfInBounds_toArray, List.set_cons_zero, List.set_cons_succ]
                            refine wpAnyH_take (i := 26) (oi := _) (v := ?_) rfl (by kernel_rfl) (by kernel_rfl) (by kernel_rfl) (fun _ _ _ h => h) (Or.inl ⟨by rfl, ?_⟩) hHeld ?_
                            rotate_left
                            · intro w' hSw
                              (go_simp <;> with_reducible rfl)
                            try simp only [Act.put, List.getElem_toArray, List.getElem_cons_succ, List.getElem_cons_zero, List.setIfInBounds_toArray, List.set_cons_zero, List.set_cons_succ]
                            refine wpAnyH_take (i := 27) (oi := _) (v := ?_) rfl (by kernel_rfl) (by kernel_rfl) (by kernel_rfl) (fun _ _ _ h => h) (Or.inl ⟨by rfl, ?_⟩) hHeld ?_
                            rotate_left
                            · intro w' hSw
                              have k0 := (hSw.cell (p := ⟨ba, oa + i * 4, none⟩) hba).trans a0
                              have k1 := (hSw.cell (p := ⟨ba, oa + i * 4 + 1, none⟩) hba).trans a1
                              have k2 := (hSw.cell (p := ⟨ba, oa + i * 4 + 2, none⟩) hba).trans a2
                              have k3 := (hSw.cell (p := ⟨ba, oa + i * 4 + 3, none⟩) hba).trans a3
                              have m0 := (hSw.cell (p := ⟨ba, oa + z * 4, none⟩) hba).trans g0
                              have m1 := (hSw.cell (p := ⟨ba, oa + z * 4 + 1, none⟩) hba).trans g1
                              have m2 := (hSw.cell (p := ⟨ba, oa + z * 4 + 2, none⟩) hba).trans g2
                              (go_simp <;> with_reducible rfl)
                            try simp only [Act.put, List.getElem_toArray, List.getElem_cons_succ, List.getElem_cons_zero, List.setIfInBounds_toArray, List.set_cons_zero, List.set_cons_succ]
                            refine wpAnyH_take (i := 28) (oi := _) (v := ?_) rfl (by kernel_rfl) (by kernel_rfl) (by kernel_rfl) (fun _ _ _ h => h) (Or.inl ⟨by rfl, ?_⟩) hHeld ?_
                            rotate_left
                            · intro w' hSw
                              (go_simp <;> with_reducible rfl)
                            try simp only [Act.put, List.getElem_toArray, List.getElem_cons_succ, List.getElem_cons_zero, List.setIfInBounds_toArray, List.set_cons_zero, List.set_cons_succ]
                            refine wpAnyH_take (i := 29) (oi := _) (v := ?_) rfl (by kernel_rfl) (by kernel_rfl) (by kernel_rfl) (fun _ _ _ h => h) (Or.inl ⟨by rfl, ?_⟩) hHeld ?_
                            rotate_left
                            · intro w' hSw
                              (go_simp <;> with_reducible rfl)
                            try simp only [Act.put, List.getElem_toArray, List.getElem_cons_succ, List.getElem_cons_zero, List.setIfInBounds_toArray, List.set_cons_zero, List.set_cons_succ]
                            refine wpAnyH_take (i := 30) (oi := _) (v := ?_) rfl (by kernel_rfl) (by kernel_rfl) (by kernel_rfl) (fun _ _ _ h => h) (Or.inl ⟨by rfl, ?_⟩) hHeld ?_
                            rotate_left
                            · intro w' hSw
                              (go_simp <;> with_reducible rfl)
                            try simp only [Act.put, List.getElem_toArray, List.getElem_cons_succ, List.getElem_cons_zero, List.setIfInBounds_toArray, List.set_cons_zero, List.set_cons_succ]
                            refine wpAnyH_done (by kernel_rfl) ?_ _
                            go_wp2
                            go_roundw
                            case rel => exact ⟨z + 1, by omega, by go_num, HK, bel_call hbz (Nat.le_refl _) B8⟩
                            case measure => simp [intOf]; omega
                        · have hin : inA l F G = true := (hinT G).2 (by omega)
                          have e1 : decide (T < (G : Int) + 1) = false := decide_eq_false (by omega)
                          have e2 : decide (V < (F : Int) + 1) = false := decide_eq_false (by omega)
                          have e3 : decide ((F : Int) + 1 ≤ (G : Int) + 1) = true := decide_eq_true (by omega)
                          have e4 : decide (V ≤ T) = false := decide_eq_false (by omega)
                          have e5 : decide ((G : Int) + 1 ≤ (F : Int) + 1) = false := decide_eq_false (by omega)
                          have HF : Hid (okB l = false) := nest_no r1 (fun h => by have h1 := h.2 F HMF.out G HMG.out hin; have h2 := HTN.out; have h3 := HVN.out; omega)
                          generalize (F : Int) = Fi at *
                          generalize (G : Int) = Gi at *
                          have e1_ : decide (T ≤ Gi) = false := decide_eq_false (by simp at e1; omega)
                          have e2_ : decide (V ≤ Fi) = false := decide_eq_false (by simp at e2; omega)
                          have e3_ : decide (Fi ≤ Gi) = true := decide_eq_true (by simp at e3; omega)
                          have e5_ : decide (Gi ≤ Fi) = false := decide_eq_false (by simp at e5; omega)
                          as_aux_lemma =>
                            go_wp2
                            go_quiet (fail)
                            go_wp2
                            go_quiet (fail)
                            go_wp2
                            go_quiet (fail)
                            go_wp2
                            go_ret
                            exact ⟨by rw [HF.out]; rfl, bel_call hB0 (Nat.le_refl _) (bel_call hbz (Nat.le_refl _) (by first | exact bel_draws (bel_draws (bel_draws (Below.refl _ wr) _) _) _ | exact bel_draws (bel_draws (Below.refl _ wr) _) _ | exact bel_draws (Below.refl _ wr) _))⟩
                      · by_cases B3 : T ≤ V
                        · have hin' : inA l F G = false := by rw [Bool.eq_false_iff]; intro h; have := (hinT G).1 h; omega
                          have e1 : decide (T < (G : Int) + 1) = false := decide_eq_false (by omega)
                          have e2 : decide (V < (F : Int) + 1) = false := decide_eq_false (by omega)
                          have e3 : decide ((F : Int) + 1 ≤ (G : Int) + 1) = false := decide_eq_false (by omega)
                          have e5 : decide ((G : Int) + 1 ≤ (F : Int) + 1) = true := decide_eq_true (by omega)
                          have e6 : decide (T ≤ V) = true := decide_eq_true (by omega)
                          have HK : Hid (∀ y, (hy : y < (arI l n).length) → y < z + 1 → inA l F (arI l n)[y] = true → ((arI l n)[y] : Int) + reachI (gt l (arI l n)[y]) ≤ T) := fun y hy hlt hin => (HFZ.out y hy hlt).elim (fun h => HT.out y hy h hin) (fun h => by rw [h] at hin ⊢; rw [hin'] at hin; cases hin)
                          have hh := fun w' => has_c ((F : Int) + 1) T F D G w' false (by rw [has_T]; exact hin')
                          generalize (F : Int) = Fi at *
                          generalize (G : Int) = Gi at *
                          have e1_ : decide (T ≤ Gi) = false := decide_eq_false (by simp at e1; omega)
                          have e2_ : decide (V ≤ Fi) = false := decide_eq_false (by simp at e2; omega)
                          have e3_ : decide (Fi ≤ Gi) = false := decide_eq_false (by simp at e3; omega)
                          have e5_ : decide (Gi ≤ Fi) = true := decide_eq_true (by simp at e5; omega)
                          as_aux_lemma =>
                            go_wp2
                            go_quiet (fail)
                            go_wp2
                            go_quiet (fail)
                            go_wp2
                            refine wp_region_held_drew (S := fun w' => Below wr.heap.size wr w') (by kernel_rfl) (by first | exact (bel_draws (bel_draws (Below.refl _ _) _) _).drew | exact (bel_draws (Below.refl _ _) _).drew) (fun hHeld => ?_)
                            refine wpAnyH_take (i := 0) (oi := _) (v := ?_) rfl (by kernel_rfl) (by kernel_rfl) (by kernel_rfl) (fun _ _ _ h => h) (Or.inl ⟨by rfl, ?_⟩) hHeld ?_
                            rotate_left
                            · intro w' hSw
                              (go_simp <;> with_reducible rfl)
                            try simp only [Act.put, List.getElem_toArray, List.getElem_cons_zero, List.setIfInBounds_toArray, List.set_cons_zero, List.set_cons_succ]
                            refine wpAnyH_take (i := 1) (oi := _) (v := ?_) rfl (by kernel_rfl) (by kernel_rfl) (by kernel_rfl) (fun _ _ _ h => h) (Or.inl ⟨by rfl, ?_⟩) hHeld ?_
                            rotate_left
                            · intro w' hSw
                              (go_simp <;> with_reducible rfl)
                            try simp only [Act.put, List.getElem_toArray, List.getElem_cons_succ, List.getElem_cons_zero, List.setIfInBounds_toArray, List.set_cons_zero, List.set_cons_succ]
                            refine wpAnyH_take (i := 2) (oi := _) (v := ?_) rfl (by kernel_rfl) (by kernel_rfl) (by kernel_rfl) (fun _ _ _ h => h) (Or.inl ⟨by rfl, ?_⟩) hHeld ?_
                            rotate_left
                            · intro w' hSw
                              (go_simp <;> with_reducible rfl)
                            try simp only [Act.put, List.getElem_toArray, List.getElem_cons_succ, List.getElem_cons_zero, List.setIfInBounds_toArray, List.set_cons_zero, List.set_cons_succ]
                            refine wpAnyH_take (i := 3) (oi := _) (v := ?_) rfl (by kernel_rfl) (by kernel_rfl) (by kernel_rfl) (fun _ _ _ h => h) (Or.inl ⟨by rfl, ?_⟩) hHeld ?_
                            rotate_left
                            · intro w' hSw
                              (go_simp <;> with_reducible rfl)
                            try simp only [Act.put, List.getElem_toArray, List.getElem_cons_succ, List.getElem_cons_zero, List.setIfInBounds_toArray, List.set_cons_zero, List.set_cons_succ]
                            refine wpAnyH_take (i := 4) (oi := _) (v := ?_) rfl (by kernel_rfl) (by kernel_rfl) (by kernel_rfl) (fun _ _ _ h => h) (Or.inl ⟨by rfl, ?_⟩) hHeld ?_
                            rotate_left
                            · intro w' hSw
                              (go_simp <;> with_reducible rfl)
                            try simp only [Act.put, List.getElem_toArray, List.getElem_cons_succ, List.getElem_cons_zero, List.setIfInBounds_toArray, List.set_cons_zero, List.set_cons_succ]
                            refine wpAnyH_take (i := 5) (oi := _) (v := ?_) rfl (by kernel_rfl) (by kernel_rfl) (by kernel_rfl) (fun _ _ _ h => h) (Or.inl ⟨by rfl, ?_⟩) hHeld ?_
                            rotate_left
                            · intro w' hSw
                              (go_simp <;> with_reducible rfl)
                            try simp only [Act.put, List.getElem_toArray, List.getElem_cons_succ, List.getElem_cons_zero, List.setIfInBounds_toArray, List.set_cons_zero, List.set_cons_succ]
                            refine wpAnyH_take (i := 6) (oi := _) (v := ?_) rfl (by kernel_rfl) (by kernel_rfl) (by kernel_rfl) (fun _ _ _ h => h) (Or.inl ⟨by rfl, ?_⟩) hHeld ?_
                            rotate_left
                            · intro w' hSw
                              (go_simp <;> with_reducible rfl)
                            try simp only [Act.put, List.getElem_toArray, List.getElem_cons_succ, List.getElem_cons_zero, List.setIfInBounds_toArray, List.set_cons_zero, List.set_cons_succ]
                            refine wpAnyH_take (i := 7) (oi := _) (v := ?_) rfl (by kernel_rfl) (by kernel_rfl) (by kernel_rfl) (fun _ _ _ h => h) (Or.inl ⟨by rfl, ?_⟩) hHeld ?_
                            rotate_left
                            · intro w' hSw
                              (go_simp <;> with_reducible rfl)
                            try simp only [Act.put, List.getElem_toArray, List.getElem_cons_succ, List.getElem_cons_zero, List.setIfInBounds_toArray, List.set_cons_zero, List.set_cons_succ]
                            refine wpAnyH_take (i := 8) (oi := _) (v := ?_) rfl (by kernel_rfl) (by kernel_rfl) (by kernel_rfl) (fun _ _ _ h => h) (Or.inl ⟨by rfl, ?_⟩) hHeld ?_
                            rotate_left
                            · intro w' hSw
                              (go_simp <;> with_reducible rfl)
                            try simp only [Act.put, List.getElem_toArray, List.getElem_cons_succ, List.getElem_cons_zero, List.setIfInBounds_toArray, List.set_cons_zero, List.set_cons_succ]
                            refine wpAnyH_take (i := 9) (oi := _) (v := ?_) rfl (by kernel_rfl) (by kernel_rfl) (by kernel_rfl) (fun _ _ _ h => h) (Or.inl ⟨by rfl, ?_⟩) hHeld ?_
                            rotate_left
                            · intro w' hSw
                              (go_simp <;> with_reducible rfl)
                            try simp only [Act.put, List.getElem_toArray, List.getElem_cons_succ, List.getElem_cons_zero, List.setIfInBounds_toArray, List.set_cons_zero, List.set_cons_succ]
                            refine wpAnyH_take (i := 10) (oi := _) (v := ?_) rfl (by kernel_rfl) (by kernel_rfl) (by kernel_rfl) (fun _ _ _ h => h) (Or.inl ⟨by rfl, ?_⟩) hHeld ?_
                            rotate_left
                            · intro w' hSw
                              have k0 := (hSw.cell (p := ⟨ba, oa + i * 4, none⟩) hba).trans a0
                              have k1 := (hSw.cell (p := ⟨ba, oa + i * 4 + 1, none⟩) hba).trans a1
                              have k2 := (hSw.cell (p := ⟨ba, oa + i * 4 + 2, none⟩) hba).trans a2
                              have k3 := (hSw.cell (p := ⟨ba, oa + i * 4 + 3, none⟩) hba).trans a3
                              have m0 := (hSw.cell (p := ⟨ba, oa + z * 4, none⟩) hba).trans g0
                              have m1 := (hSw.cell (p := ⟨ba, oa + z * 4 + 1, none⟩) hba).trans g1
                              have m2 := (hSw.cell (p := ⟨ba, oa + z * 4 + 2, none⟩) hba).trans g2
                              (go_simp <;> with_reducible rfl)
                            try simp only [Act.put, List.getElem_toArray, List.getElem_cons_succ, List.getElem_cons_zero, List.setIfInBounds_toArray, List.set_cons_zero, List.set_cons_succ]
                            refine wpAnyH_take (i := 11) (oi := _) (v := ?_) rfl (by kernel_rfl) (by kernel_rfl) (by kernel_rfl) (fun _ _ _ h => h) (Or.inl ⟨by rfl, ?_⟩) hHeld ?_
                            rotate_left
                            · intro w' hSw
                              (go_simp <;> with_reducible rfl)
                            try simp only [Act.put, List.getElem_toArray, List.getElem_cons_succ, List.getElem_cons_zero, List.setIfInBounds_toArray, List.set_cons_zero, List.set_cons_succ]
                            refine wpAnyH_take (i := 12) (oi := _) (v := ?_) rfl (by kernel_rfl) (by kernel_rfl) (by kernel_rfl) (fun _ _ _ h => h) (Or.inl ⟨by rfl, ?_⟩) hHeld ?_
                            rotate_left
                            · intro w' hSw
                              (go_simp <;> with_reducible rfl)
                            try simp only [Act.put, List.getElem_toArray, List.getElem_cons_succ, List.getElem_cons_zero, List.setIfInBounds_toArray, List.set_cons_zero, List.set_cons_succ]
                            refine wpAnyH_take (i := 13) (oi := _) (v := ?_) rfl (by kernel_rfl) (by kernel_rfl) (by kernel_rfl) (fun _ _ _ h => h) (Or.inl ⟨by rfl, ?_⟩) hHeld ?_
                            rotate_left
                            · intro w' hSw
                              (go_simp <;> with_reducible rfl)
                            try simp only [Act.put, List.getElem_toArray, List.getElem_cons_succ, List.getElem_cons_zero, List.setIfInBounds_toArray, List.set_cons_zero, List.set_cons_succ]
                            refine wpAnyH_take (i := 14) (oi := _) (v := ?_) rfl (by kernel_rfl) (by kernel_rfl) (by kernel_rfl) (fun _ _ _ h => h) (Or.inl ⟨by rfl, ?_⟩) hHeld ?_
                            rotate_left
                            · intro w' hSw
                              (go_simp <;> with_reducible rfl)
                            try simp only [Act.put, List.getElem_toArray, List.getElem_cons_succ, List.getElem_cons_zero, List.setIfInBounds_toArray, List.set_cons_zero, List.set_cons_succ]
                            refine wpAnyH_take (i := 15) (oi := _) (v := ?_) rfl (by kernel_rfl) (by kernel_rfl) (by kernel_rfl) (fun _ _ _ h => h) (Or.inl ⟨by rfl, ?_⟩) hHeld ?_
                            rotate_left
                            · intro w' hSw
                              have k0 := (hSw.cell (p := ⟨ba, oa + i * 4, none⟩) hba).trans a0
                              have k1 := (hSw.cell (p := ⟨ba, oa + i * 4 + 1, none⟩) hba).trans a1
                              have k2 := (hSw.cell (p := ⟨ba, oa + i * 4 + 2, none⟩) hba).trans a2
                              have k3 := (hSw.cell (p := ⟨ba, oa + i * 4 + 3, none⟩) hba).trans a3
                              have m0 := (hSw.cell (p := ⟨ba, oa + z * 4, none⟩) hba).trans g0
                              have m1 := (hSw.cell (p := ⟨ba, oa + z * 4 + 1, none⟩) hba).trans g1
                              have m2 := (hSw.cell (p := ⟨ba, oa + z * 4 + 2, none⟩) hba).trans g2
                              (go_simp <;> with_reducible rfl)
                            try simp only [Act.put, List.getElem_toArray, List.getElem_cons_succ, List.getElem_cons_zero, List.setIfInBounds_toArray, List.set_cons_zero, List.set_cons_succ]
                            refine wpAnyH_ready (rs := [16]) (by kernel_rfl) (by simp) ?_
                            refine AllReadyH.cons (o := _) rfl (fun K hK => ?_) AllReadyH.nil
                            go_simp
                            go_at_call 46
                            (with_reducible (refine (hh _).mono ?_))
                            rintro e w8 ⟨rfl, b8⟩
                            have B8 : Below wr.heap.size wr w8 := bel_call (by first | exact (bel_draws (bel_draws (Below.refl _ _) _) _).drew | exact (bel_draws (Below.refl _ _) _).drew) (Nat.le_refl _) b8
                            refine hK.out _ _ B8 (fun hHeld => ?_)
                            clear hK K
                            try simp only [Act.put, List.getElem_toArray, List.getElem_cons_succ, List.getElem_cons_zero, List.setIfInBounds_toArray, List.set_cons_zero, List.set_cons_succ]
                            refine wpAnyH_take (i := 17) (oi := _) (v := ?_) rfl (by kernel_rfl) (by kernel_rfl) (by kernel_rfl) (fun _ _ _ h => h) (Or.inl ⟨by rfl, ?_⟩) hHeld ?_
                            rotate_left
                            · intro w' hSw
                              (go_simp <;> with_reducible rfl)
                            try simp only [Act.put, List.getElem_toArray, List.getElem_cons_succ, List.getElem_cons_zero, List.setIfInBounds_toArray, List.set_cons_zero, List.set_cons_succ]
                            refine wpAnyH_take (i := 18) (oi := _) (v := undef) rfl (by kernel_rfl) (by kernel_rfl) (by kernel_rfl) (fun _ _ _ h => h) (Or.inr ⟨by rfl, rfl⟩) hHeld ?_
                            try simp only [Act.put, List.getElem_toArray, List.getElem_cons_succ, List.getElem_cons_zero, List.setIfInBounds_toArray, List.set_cons_zero, List.set_cons_succ]
                            refine wpAnyH_take (i := 19) (oi := _) (v := undef) rfl (by kernel_rfl) (by kernel_rfl) (by kernel_rfl) (fun _ _ _ h => h) (Or.inr ⟨by rfl, rfl⟩) hHeld ?_
                            try simp only [Act.put, List.getElem_toArray, List.getElem_cons_succ, List.getElem_cons_zero, List.setIfInBounds_toArray, List.set_cons_zero, List.set_cons_succ]
                            refine wpAnyH_take (i := 20) (oi := _) (v := undef) rfl (by kernel_rfl) (by kernel_rfl) (by kernel_rfl) (fun _ _ _ h => h) (Or.inr ⟨by rfl, rfl⟩) hHeld ?_
                            try simp only [Act.put, List.getElem_toArray, List.getElem_cons_succ, List.getElem_cons_zero, List.setIfInBounds_toArray, List.set_cons_zero, List.set_cons_succ]
                            refine wpAnyH_take (i := 21) (oi := _) (v := undef) rfl (by kernel_rfl) (by kernel_rfl) (by kernel_rfl) (fun _ _ _ h => h) (Or.inr ⟨by rfl, rfl⟩) hHeld ?_
                            try simp only [Act.put, List.getElem_toArray, List.getElem_cons_succ, List.getElem_cons_zero, List.setIfInBounds_toArray, List.set_cons_zero, List.set_cons_succ]
                            refine wpAnyH_take (i := 22) (oi := _) (v := undef) rfl (by kernel_rfl) (by kernel_rfl) (by kernel_rfl) (fun _ _ _ h => h) (Or.inr ⟨by rfl, rfl⟩) hHeld ?_
                            try simp only [Act.put, List.getElem_toArray, List.getElem_cons_succ, List.getElem_cons_zero, List.setIfInBounds_toArray, List.set_cons_zero, List.set_cons_succ]
                            refine wpAnyH_take (i := 23) (oi := _) (v := undef) rfl (by kernel_rfl) (by kernel_rfl) (by kernel_rfl) (fun _ _ _ h => h) (Or.inr ⟨by rfl, rfl⟩) hHeld ?_
                            try simp only [Act.put, List.getElem_toArray, List.getElem_cons_succ, List.getElem_cons_zero, List.setIfInBounds_toArray, List.set_cons_zero, List.set_cons_succ]
                            refine wpAnyH_take (i := 24) (oi := _) (v := undef) rfl (by kernel_rfl) (by kernel_rfl) (by kernel_rfl) (fun _ _ _ h => h) (Or.inr ⟨by rfl, rfl⟩) hHeld ?_
                            try simp only [Act.put, List.getElem_toArray, List.getElem_cons_succ, List.getElem_cons_zero, List.setIfInBounds_toArray, List.set_cons_zero, List.set_cons_succ]
                            refine wpAnyH_take (i := 25) (oi := _) (v := undef) rfl (by kernel_rfl) (by kernel_rfl) (by kernel_rfl) (fun _ _ _ h => h) (Or.inr ⟨by rfl, rfl⟩) hHeld ?_
                            try simp only [Act.put, List.getElem_toArray, List.getElem_cons_succ, List.getElem_cons_zero, List.setIfInBounds_toArray, List.set_cons_zero, List.set_cons_succ]
                            refine wpAnyH_take (i := 26) (oi := _) (v := undef) rfl (by kernel_rfl) (by kernel_rfl) (by kernel_rfl) (fun _ _ _ h => h) (Or.inr ⟨by rfl, rfl⟩) hHeld ?_
                            try simp only [Act.put, List.getElem_toArray, List.getElem_cons_succ, List.getElem_cons_zero, List.setIfInBounds_toArray, List.set_cons_zero, List.set_cons_succ]
                            refine wpAnyH_take (i := 27) (oi := _) (v := undef) rfl (by kernel_rfl) (by kernel_rfl) (by kernel_rfl) (fun _ _ _ h => h) (Or.inr ⟨by rfl, rfl⟩) hHeld ?_
                            try simp only [Act.put, List.getElem_toArray, List.getElem_cons_succ, List.getElem_cons_zero, List.setIfInBounds_toArray, List.set_cons_zero, List.set_cons_succ]
                            refine wpAnyH_take (i := 28) (oi := _) (v := undef) rfl (by kernel_rfl) (by kernel_rfl) (by kernel_rfl) (fun _ _ _ h => h) (Or.inr ⟨by rfl, rfl⟩) hHeld ?_
                            try simp only [Act.put, List.getElem_toArray, List.getElem_cons_succ, List.getElem_cons_zero, List.setIfInBounds_toArray, List.set_cons_zero, List.set_cons_succ]
                            refine wpAnyH_take (i := 29) (oi := _) (v := ?_) rfl (by kernel_rfl) (by kernel_rfl) (by kernel_rfl) (fun _ _ _ h => h) (Or.inl ⟨by rfl, ?_⟩) hHeld ?_
                            rotate_left
                            · intro w' hSw
                              (go_simp <;> with_reducible rfl)
                            try simp only [Act.put, List.getElem_toArray, List.getElem_cons_succ, List.getElem_cons_zero, List.setIfInBounds_toArray, List.set_cons_zero, List.set_cons_succ]
                            refine wpAnyH_take (i := 30) (oi := _) (v := ?_) rfl (by kernel_rfl) (by kernel_rfl) (by kernel_rfl) (fun _ _ _ h => h) (Or.inl ⟨by rfl, ?_⟩) hHeld ?_
                            rotate_left
                            · intro w' hSw
                              (go_simp <;> with_reducible rfl)
                            try simp only [Act.put, List.getElem_toArray, List.getElem_cons_succ, List.getElem_cons_zero, List.setIfInBounds_toArray, List.set_cons_zero, List.set_cons_succ]
                            refine wpAnyH_done (by kernel_rfl) ?_ _
                            go_wp2
                            go_roundw
                            case rel => exact ⟨z + 1, by omega, by go_num, HK, bel_call hbz (Nat.le_refl _) B8⟩
                            case measure => simp [intOf]; omega
                        · have hin : inA l G F = true := (hinV F).2 (by omega)
                          have e1 : decide (T < (G : Int) + 1) = false := decide_eq_false (by omega)
                          have e2 : decide (V < (F : Int) + 1) = false := decide_eq_false (by omega)
                          have e3 : decide ((F : Int) + 1 ≤ (G : Int) + 1) = false := decide_eq_false (by omega)
                          have e5 : decide ((G : Int) + 1 ≤ (F : Int) + 1) = true := decide_eq_true (by omega)
                          have e6 : decide (T ≤ V) = false := decide_eq_false (by omega)
                          have HF : Hid (okB l = false) := nest_no r1 (fun h => by have h1 := h.2 G HMG.out F HMF.out hin; have h2 := HTN.out; have h3 := HVN.out; omega)
                          generalize (F : Int) = Fi at *
                          generalize (G : Int) = Gi at *
                          have e1_ : decide (T ≤ Gi) = false := decide_eq_false (by simp at e1; omega)
                          have e2_ : decide (V ≤ Fi) = false := decide_eq_false (by simp at e2; omega)
                          have e3_ : decide (Fi ≤ Gi) = false := decide_eq_false (by simp at e3; omega)
                          have e5_ : decide (Gi ≤ Fi) = true := decide_eq_true (by simp at e5; omega)
                          as_aux_lemma =>
                            go_wp2
                            go_quiet (fail)
                            go_wp2
                            go_quiet (fail)
                            go_wp2
                            go_quiet (fail)
                            go_wp2
                            go_ret
                            exact ⟨by rw [HF.out]; rfl, bel_call hB0 (Nat.le_refl _) (bel_call hbz (Nat.le_refl _) (by first | exact bel_draws (bel_draws (bel_draws (Below.refl _ wr) _) _) _ | exact bel_draws (bel_draws (Below.refl _ wr) _) _ | exact bel_draws (Below.refl _ wr) _))⟩
              · have t3 : decide ((z : Int) < (ma : Int)) = false := by simpa using hlt3
                have HK : Hid (∀ y, (hy : y < (arI l n).length) → y < i + 1 → ((arI l n)[y] : Int) + reachI (gt l (arI l n)[y]) + 1 < n ∧ ∀ G ∈ arI l n, inA l (arI l n)[y] G = true → (G : Int) + reachI (gt l G) ≤ ((arI l n)[y] : Int) + reachI (gt l (arI l n)[y])) := fun y hy hlt => (HIX.out y hy hlt).elim (fun h => HI.out y hy h) (fun h => by
                  rw [h, HTT.out]
                  refine ⟨by omega, fun G hG hin => ?_⟩
                  obtain ⟨v, hv, rfl⟩ := List.mem_iff_getElem.1 hG
                  exact HT.out v hv (by rw [← HMA.out] at hv; omega) hin)
                go_wp2
                go_roundw
                case rel => exact ⟨i + 1, by omega, by go_num, HK, hbz⟩
                case measure => simp [intOf]; omega
        · have t2 : decide ((i : Int) < (ma : Int)) = false := by simpa using hlt2
          have hnr : nestR l := by
            unfold nestR
            rw [HN.out]
            refine ⟨fun f hf => ?_, fun f hf g hg hin => ?_⟩
            · obtain ⟨y, hy, rfl⟩ := List.mem_iff_getElem.1 hf
              have := (HI.out y hy (by rw [← HMA.out] at hy; omega)).1
              have h2 := rch_eq (all_gt hal (arI l n)[y])
              omega
            · obtain ⟨y, hy, rfl⟩ := List.mem_iff_getElem.1 hf
              have := (HI.out y hy (by rw [← HMA.out] at hy; omega)).2 g hg hin
              have h2 := rch_eq (all_gt hal (arI l n)[y])
              have h3 := rch_eq (all_gt hal g)
              omega
          have r2 := nest_yes r1 hnr
          clear hnr HI
          have hrq := hrp wi (bel_call hb1 (Nat.le_refl _) hbi)
          by_cases r4 : okP l = true
          · have R4 : Hid (okP l = true) := r4
            have hPr := prs_of r4
            clear r4 hrp
            go_wp2_with (go_at_call 34; refine hrq.mono ?_; rintro e w4 ⟨⟨q, d, m4, k4, rfl, e4, f4⟩, b4⟩; rw [R4.out] at e4; subst e4; obtain ⟨rfl, o4⟩ := f4 rfl)
            have hB4 := bel_call hbi (Nat.le_refl _) b4
            have hra4 := hra.below hB4
            have hrl4 := hrl.below hB4
            have hru4 := own_rd o4
            have HLU : Hid ((pairL l).length = m4) := by show _ = _; rw [hPr.len, HN.out]
            have hBB := bel_call hB0 (Nat.le_refl _) hB4
            clear hra hrl hB4 hB0 b4 o4 hbi hrq f4
            go_loopw [11] (fun t wr => ∃ i : Nat, i ≤ m4 ∧ t = .int .i64 i ∧ Hid (∀ y, y < i → insB l y = true) ∧ Below w4.heap.size w4 wr) (fun t _ => m4 - (intOf t).toNat)
            case atStart => exact ⟨0, Nat.zero_le _, rfl, fun y hy => by omega, Below.refl _ _⟩
            case round =>
              obtain ⟨u, hu, rfl, HI, hbu⟩ := hrel
              generalize wr = wu at *
              by_cases hlt4 : u < m4
              · have hul : u < l.length := by rw [HN.out]; exact hlt4
                go_wp2
                go_loopw [12, 13, 14] (fun tb ta t wr => ∃ z : Nat, z ≤ ma ∧ t = .int .i64 z ∧ tb = .int .i64 (cntA l z u (fun f => (gt l f).1 == 8) : Nat) ∧ ta = .int .i64 (cntA l z u (fun _ => true) : Nat) ∧ Below w4.heap.size w4 wr) (fun _ _ t _ => ma - (intOf t).toNat)
                case atStart => exact ⟨0, Nat.zero_le _, rfl, rfl, rfl, hbu⟩
                case round =>
                  obtain ⟨z, hz, rfl, rfl, rfl, hbz⟩ := hrel
                  have hcb := cntA_le l z u (fun f => (gt l f).1 == 8)
                  have hca := cntA_le l z u (fun _ => true)
                  by_cases hlt5 : z < ma
                  · have hzl : z < (arI l l.length).length := by rw [HN.out, ← HMA.out]; exact hlt5
                    have hzl2 : z < (arI l m4).length := by rw [← HMA.out]; exact hlt5
                    have hzl' : z < (arL l m4).length := by rw [arL_len]; exact hzl2
                    obtain ⟨ba, oa, rfl, hba, g0, g1, g2, g3⟩ := (hra4.below hbz).area z hzl'
                    have hel : (arL l m4)[z] = arE l (arI l m4)[z] := by simp [arL]
                    rw [hel] at g0 g1 g2 g3
                    simp only [arE] at g0 g1 g2 g3
                    have hh := fun w' => has_c ((arI l m4)[z] + 1) ((arI l m4)[z] + reachI (gt l (arI l m4)[z])) ((arI l m4)[z]) ((gt l (arI l m4)[z]).1 == 8) u w' _ (has_iff hal (arI l m4)[z] u)
                    have EB : Hid (cntA l (z + 1) u (fun f => (gt l f).1 == 8) = cntA l z u (fun f => (gt l f).1 == 8) + if (inA l (arI l m4)[z] u && ((gt l (arI l m4)[z]).1 == 8)) = true then 1 else 0) := by
                      show _ = _
                      have := cntA_step (i := u) (p := fun f => (gt l f).1 == 8) hzl
                      simpa only [HN.out] using this
                    have EA : Hid (cntA l (z + 1) u (fun _ => true) = cntA l z u (fun _ => true) + if (inA l (arI l m4)[z] u && true) = true then 1 else 0) := by
                      show _ = _
                      have := cntA_step (i := u) (p := fun _ => true) hzl
                      simpa only [HN.out] using this
                    clear hel
                    generalize ((arI l m4)[z] : Int) + reachI (gt l (arI l m4)[z]) = T at *
                    generalize ((gt l (arI l m4)[z]).1 == 8) = D at *
                    generalize (arI l m4)[z] = F at *
                    generalize inA l F u = I at *
                    generalize cntA l z u (fun f => (gt l f).1 == 8) = CB at *
                    generalize cntA l z u (fun _ => true) = CA at *
                    have hbaz : ba < wr.heap.size := hba
                    cases I with
                    | false =>
                      go_wp2_with (go_at_call 46; refine (hh _).mono ?_; rintro e w8 ⟨rfl, b8⟩)
                      go_roundw
                      case rel => exact ⟨z + 1, by omega, by go_num, by rw [EB.out]; rfl, by rw [EA.out]; rfl, bel_call hbz (Nat.le_refl _) b8⟩
                      case measure => simp [intOf]; omega
                    | true =>
                      cases D with
                      | false =>
                        go_wp2_with (go_at_call 46; refine (hh _).mono ?_; rintro e w8 ⟨rfl, b8⟩; have c8 := (b8.cell (p := ⟨ba, oa + z * 4 + 3, none⟩) hbaz).trans g3)
                        go_roundw
                        case rel => exact ⟨z + 1, by omega, by go_num, by rw [EB.out]; rfl, by rw [EA.out]; go_num, bel_call hbz (Nat.le_refl _) b8⟩
                        case measure => simp [intOf]; omega
                      | true =>
                        go_wp2_with (go_at_call 46; refine (hh _).mono ?_; rintro e w8 ⟨rfl, b8⟩; have c8 := (b8.cell (p := ⟨ba, oa + z * 4 + 3, none⟩) hbaz).trans g3)
                        go_roundw
                        case rel => exact ⟨z + 1, by omega, by go_num, by rw [EB.out]; go_num, by rw [EA.out]; go_num, bel_call hbz (Nat.le_refl _) b8⟩
                        case measure => simp [intOf]; omega
                  · have t5 : decide ((z : Int) < (ma : Int)) = false := by simpa using hlt5
                    have hzma : z = (arI l l.length).length := by rw [HN.out, ← HMA.out]; omega
                    have e1 : cntA l z u (fun f => (gt l f).1 == 8) = bodN l u 24 := by rw [hzma]; exact body_cnt (by rw [HN.out]; exact hn24) u
                    have e2 : cntA l z u (fun _ => true) = 0 ↔ scL l u = List.replicate 24 0 := by rw [hzma]; exact all_cnt (by rw [HN.out]; exact hn24) u
                    have e3 := held_iff (i := u) hPr
                    rw [HN.out] at e3
                    obtain ⟨b, f, rfl, hbz', f0, f1, f2, f3⟩ := (hrl4.below hbz).inst u hul
                    have HG : Hid (gt l u = l[u]) := gt_eq hul
                    have hhd := held_any _ c l wr (hrl4.below hbz) m4 HN.out hn24 q d (pairL l) (hru4.below hbz) HLU.out u
                    have hhb : heldN l (pairL l) u m4 ≤ m4 := cntN_le _ _
                    rw [e1]
                    rw [e1] at hcb
                    clear e1 hzma
                    obtain ⟨CA, hCA⟩ : ∃ C, cntA l z u (fun _ => true) = C := ⟨_, rfl⟩
                    rw [hCA] at e2 hca ⊢
                    clear hCA
                    generalize l[u] = x at *
                    obtain ⟨xo, xa, xb, xn⟩ := x
                    simp only at f0
                    clear f1 f2 f3
                    obtain ⟨CB, hCB⟩ : ∃ C, bodN l u 24 = C := ⟨_, rfl⟩
                    obtain ⟨CH, hCH⟩ : ∃ C, heldN l (pairL l) u m4 = C := ⟨_, rfl⟩
                    rw [hCB] at hcb ⊢
                    rw [hCH] at hhd hhb e3
                    have HCB : Hid (bodN l u 24 = CB) := hCB
                    have HE2 : Hid (CA = 0 ↔ scL l u = List.replicate 24 0) := e2
                    have HE3 : Hid (CH = 0 ↔ betw (pairL l) u = false) := e3
                    clear hCB hCH e2 e3
                    have hins : Hid (insB l u = (decide (CB ≤ 2) && !(xo == 11 && (!decide (CA = 0) || !decide (CH = 0))))) := by
                      show _ = _
                      unfold insB
                      rw [HG.out, HCB.out]
                      have x1 : decide (scL l u ≠ List.replicate 24 0) = !decide (CA = 0) := by
                        by_cases h : CA = 0
                        · rw [decide_eq_true h, decide_eq_false (p := scL l u ≠ List.replicate 24 0) (fun hh => hh (HE2.out.1 h))]; rfl
                        · rw [decide_eq_false h, decide_eq_true (p := scL l u ≠ List.replicate 24 0) (fun hh => h (HE2.out.2 hh))]; rfl
                      have x2 : betw (pairL l) u = !decide (CH = 0) := by
                        by_cases h : CH = 0
                        · rw [decide_eq_true h, HE3.out.1 h]; rfl
                        · rw [decide_eq_false h]
                          cases hb : betw (pairL l) u with
                          | true => rfl
                          | false => exact absurd (HE3.out.2 hb) h
                      rw [x1, x2]
                    have FIN : ∀ w', Below wr.heap.size wr w' → Below w.heap.size w w' := fun w' h => bel_call hBB (Nat.le_refl _) (bel_call hbz (Nat.le_refl _) h)
                    generalize hcaI : (CA : Int) = ca at *
                    generalize hcbI : (CB : Int) = cb at *
                    generalize hchI : (CH : Int) = ch at *
                    by_cases b2 : 2 < CB
                    · have k1 : decide ((2 : Int) < cb) = true := decide_eq_true (by omega)
                      have HF : Hid (okB l = false) := ins_no hul (by rw [hins.out, decide_eq_false (by omega : ¬ CB ≤ 2)]; rfl)
                      go_wp2
                      go_ret
                      exact ⟨by rw [HF.out]; rfl, FIN _ (Below.refl _ _)⟩
                    · have k1 : decide ((2 : Int) < cb) = false := decide_eq_false (by omega)
                      by_cases h11 : xo = 11
                      · subst h11
                        by_cases cA : CA = 0
                        · have k2 : decide ((0 : Int) < ca) = false := decide_eq_false (by omega)
                          by_cases cH : CH = 0
                          · have k3 : decide ((0 : Int) < ch) = false := decide_eq_false (by omega)
                            have HK : Hid (∀ y, y < u + 1 → insB l y = true) := fun y hy => (if e : y = u then by subst e; rw [hins.out, decide_eq_true (by omega : CB ≤ 2), decide_eq_true cA, decide_eq_true cH]; rfl else HI.out y (by omega))
                            clear cA cH
                            go_wp2_with (go_at_call 47; refine hhd.mono ?_; rintro e w8 ⟨rfl, b8⟩)
                            go_roundw
                            case rel => exact ⟨u + 1, by omega, by go_num, HK, bel_call hbz (Nat.le_refl _) b8⟩
                            case measure => simp [intOf]; omega
                          · have k3 : decide ((0 : Int) < ch) = true := decide_eq_true (by omega)
                            have HF : Hid (okB l = false) := ins_no hul (by rw [hins.out, decide_eq_false cH]; simp)
                            clear cA cH
                            go_wp2_with (go_at_call 47; refine hhd.mono ?_; rintro e w8 ⟨rfl, b8⟩)
                            go_ret
                            exact ⟨by rw [HF.out]; rfl, FIN _ b8⟩
                        · have k2 : decide ((0 : Int) < ca) = true := decide_eq_true (by omega)
                          have HF : Hid (okB l = false) := ins_no hul (by rw [hins.out, decide_eq_false cA]; simp)
                          clear cA
                          go_wp2
                          go_ret
                          exact ⟨by rw [HF.out]; rfl, FIN _ (Below.refl _ _)⟩
                      · have k4 : (xo == 11) = false := by simpa using h11
                        have HK : Hid (∀ y, y < u + 1 → insB l y = true) := fun y hy => (if e : y = u then by subst e; rw [hins.out, decide_eq_true (by omega : CB ≤ 2), k4]; rfl else HI.out y (by omega))
                        go_wp2
                        go_roundw
                        case rel => exact ⟨u + 1, by omega, by go_num, HK, hbz⟩
                        case measure => simp [intOf]; omega
              · have t4 : decide ((u : Int) < (m4 : Int)) = false := by simpa using hlt4
                have HF : Hid (okB l = true) := ins_yes r1 r2 R4.out (fun i hi => HI.out i (by rw [HN.out] at hi; omega))
                go_wp2
                go_ret
                exact ⟨by rw [HF.out]; rfl, bel_call hBB (Nat.le_refl _) hbu⟩
          · have r4' : okP l = false := by simpa using r4
            have R4 : Hid (okP l = false) := r4'
            have HF : Hid (okB l = false) := okP_ok r4'
            clear r4 r4' hrp
            go_wp2_with (go_at_call 34; refine hrq.mono ?_; rintro e w4 ⟨⟨q, d, m4, k4, rfl, e4, f4⟩, b4⟩; rw [R4.out] at e4; subst e4; clear f4)
            go_ret
            exact ⟨by rw [HF.out]; rfl, bel_call hB0 (Nat.le_refl _) (bel_call hbi (Nat.le_refl _) b4)⟩
end Go.Proofs.Ytonholadabebbaa
