/-
  How long a program is, by the document.
-/
import Derived.Test.YteikdocpncdheaaCref
namespace Go.Proofs.Yteikdocpncdheaa
open Go.ChangeShapes Go.WideShapes Go.ChangeAt Go.RowKit
attribute [local go_sem ↓] Go.wp_at_zero Go.wp_at_succ

theorem own_is {α : Type} {E : Elt α} {w : World} {base b : Nat} {e : TypeId} {c : Nat} {l : List α} (h : Own E w base e (some ⟨b, 0, none⟩) c l) : ∃ cs, w.heap[b]? = some (.cells cs e (0, 0)) := by
  rcases h.2 with ⟨h1, _⟩ | ⟨g, cap, cur, h1, h2, h3, _⟩
  · simp at h1
  · simp only [Value.slice.injEq, Option.some.injEq, Addr.mk.injEq] at h1
    obtain ⟨⟨rfl, _⟩, _⟩ := h1
    exact ⟨_, h3⟩
theorem pc_next {l : List In} {k : Nat} (h : isM l k = false) : Sm l 0 (frs l (k + 1)) (k + 1) = Sm l 0 (frs l k) k + wt l 0 k := by
  rw [(frs_no h).1, Sm_succ (frs_le l k)]
theorem pc_mark {l : List In} {k : Nat} (h : isM l k = true) : Sm l 0 (frs l (k + 1)) (k + 1) = 0 ∧ lgs l (k + 1) = max (lgs l k) (Sm l 0 (frs l k) k + wt l 0 k) := by
  rw [(frs_yes h).1, (frs_yes h).2, Sm_nil, Sm_succ (frs_le l k)]
  exact ⟨rfl, rfl⟩
set_option maxRecDepth 100000 in
set_option maxHeartbeats 8000000 in
theorem refCost_yes (p : Option Addr) (c : Nat) (l : List In) (w : World) (hr : Rd eIn w p c l) (n : Nat) (hN : l.length = n) (hk : okB l = true) :
    Calls Try.prog 14 #[.slice p n c] w fun e w' => (∃ q d m, e = .returned (.tuple #[.agg #[.int .i64 ((tk l : Nat) : Int), .int .i64 ((lgs l n : Nat) : Int), .slice q m d], .bool true]) ∧ m = (spL l n).length ∧ Own eSp w' w.heap.size 36 q d (spL l n)) ∧ Below w.heap.size w w' := by
  have hP := prg_of hk
  have hle := hP.le
  rw [hN] at hle
  have h1 := fun w' (hb : Below w.heap.size w w') => mayCode_any p c l w' (hr.below hb) n hN (by omega)
  rw [hk] at h1
  have h2 := fun w' (hb : Below w.heap.size w w') => times_any p c l w' (hr.below hb) n hN hP
  have h3 := fun w' (hb : Below w.heap.size w w') => refPairs_any p c l w' (hr.below hb) n hN (by omega) hP.all (by omega)
  have HN : Hid (l.length = n) := hN
  have HP : Hid (Prg l) := hP
  have HU : Hid ((pairL l).length = n) := by show _ = _; rw [← hN]; exact outO_len l _
  have HT : Hid (tk l = Sm l 0 0 n) := by show _ = _; unfold tk; rw [hN]
  rw [HT.out]
  have hokp := hP.pair
  clear hN hP hk
  go_enter Try.func14, Try.ntmps14
  go_wp2_with (first
    | (go_at_call 29; refine (h1 _ ((Below.refl _ _).alloc (Nat.le_refl _) _)).mono ?_; rintro e w1 ⟨rfl, b1⟩; have B1 := bel_call ((Below.refl _ _).alloc (Nat.le_refl _) _) (Nat.le_refl _) b1; have g1 : w1.heap[w.heap.size]? = some (.cells #[.int .i64 0, .int .i64 0, .slice none 0 0] 32 (0, 0)) := (b1.block w.heap.size (by simp)).trans (heap_alloc_new w _))
    | (go_at_call 30; refine (h2 _ (bel_call B1 (Nat.le_refl _) ((Below.refl _ _).alloc (Nat.le_refl _) _))).mono ?_; rintro e w2 ⟨⟨qt, dt, rfl, ot⟩, b2⟩
       have g2 : w2.heap[w.heap.size]? = _ := (b2.block w.heap.size (by have := lt_of_block g1; simp; omega)).trans ((Below.heap_alloc _ _ _ (lt_of_block g1)).trans g1)
       have c2 : w2.heap[w1.heap.size]? = some (.cells #[.int .i64 0, .int .i64 0, .slice none 0 0] 32 (0, 0)) := (b2.block w1.heap.size (by simp)).trans (heap_alloc_new w1 _)
       have B2 := bel_call (bel_call B1 (Nat.le_refl _) ((Below.refl _ _).alloc (Nat.le_refl _) _)) (Nat.le_refl _) b2)
    | (go_at_call 31; refine (h3 _ B2).mono ?_; rintro e w3 ⟨⟨qp, dp, mp, kp, rfl, e4, f4⟩, b3⟩; rw [hokp] at e4; subst e4; obtain ⟨rfl, op⟩ := f4 rfl
       have B3 := bel_call B2 (Nat.le_refl _) b3
       have hS : Cs l mp w.heap.size w1.heap.size w w3 qt dt qp dp 0 0 none 0 0 [] := ⟨lt_of_block g1, (b3.block _ (lt_of_block g2)).trans g2, (b3.block _ (lt_of_block c2)).trans c2, own_mono (own_below ot b3) (by simp), own_mono op (by have := b2.size; simp at this; omega), own_nil _ _ _, B3⟩
       clear f4 op ot g1 g2 c2 h1 h2 h3 b1 b2 b3 B1 B2 B3))
  generalize w1.heap.size = r at *
  go_loopw [8, 9] (fun s i wr => ∃ (k : Nat) (q : Option Addr) (m d : Nat), k ≤ mp ∧ i = .int .i64 k ∧ s = .int .i64 ((Sm l 0 (frs l k) k : Nat) : Int) ∧ Hid (m = (spL l k).length) ∧ Cs l mp w.heap.size r w wr qt dt qp dp ((Sm l 0 0 k : Nat) : Int) ((lgs l k : Nat) : Int) q m d (spL l k)) (fun _ i _ => mp - (intOf i).toNat)
  case atStart => exact ⟨0, none, 0, 0, Nat.zero_le _, rfl, rfl, rfl, hS⟩
  case round =>
    clear hS
    obtain ⟨k, q, m, d, hk, rfl, rfl, HM, hS⟩ := hrel
    have hml : m ≤ k := by rw [HM.out]; exact spL_len l k
    by_cases hlt : k < mp
    · have hkl : k < l.length := by rw [HN.out]; exact hlt
      have hku : k < (pairL l).length := by rw [HU.out]; exact hlt
      obtain ⟨b, o, rfl, hb, f0, f1, f2, f3⟩ := hr.inst k hkl
      have F0 := fun wx (hb' : Below w.heap.size w wx) => (hb'.cell (p := ⟨b, o + k * 4, none⟩) hb).trans f0
      have F1 := fun wx (hb' : Below w.heap.size w wx) => (hb'.cell (p := ⟨b, o + k * 4 + 1, none⟩) hb).trans f1
      have HG : Hid (gt l k = l[k]) := gt_eq hkl
      generalize l[k] = x at *
      obtain ⟨xo, xa, xb, xn⟩ := x
      simp only at F0 F1
      clear f0 f1 f2 f3
      have hA := HP.out.sm_le (a := 0) (b := k) (by omega) (by omega)
      have hPc := HP.out.sm_le (a := frs l k) (b := k) (frs_le l k) (by omega)
      have hGb := lgs_bd HP.out (k := k) (by omega)
      have hTb := HP.out.wt_le hkl
      have hTp := wt_pos HP.out.all (lo := 0) (i := k)
      have HA : Hid (Sm l 0 0 (k + 1) = Sm l 0 0 k + wt l 0 k) := Sm_succ (by omega)
      have HPn : Hid (isM l k = false → Sm l 0 (frs l (k + 1)) (k + 1) = Sm l 0 (frs l k) k + wt l 0 k) := pc_next
      have HPm : Hid (isM l k = true → Sm l 0 (frs l (k + 1)) (k + 1) = 0 ∧ lgs l (k + 1) = max (lgs l k) (Sm l 0 (frs l k) k + wt l 0 k)) := pc_mark
      have HGn : Hid (isM l k = false → lgs l (k + 1) = lgs l k) := fun h => (frs_no h).2
      obtain ⟨⟨⟨c0, c1, c2⟩, z0, z1, z2⟩, hrz⟩ := hS.facts
      obtain ⟨bt, rfl, hbt, hbt2, t0⟩ := hS.time hlt
      have hTime := fun (wx : World) A' G' q' m' d' SP' (h : Cs l mp w.heap.size r w wx (some ⟨bt, 0, none⟩) dt qp dp A' G' q' m' d' SP') (j : Nat) (hj : j < mp) => h.time hj
      generalize hAe : Sm l 0 0 k = A at *
      generalize hPe : Sm l 0 (frs l k) k = P at *
      generalize hGe : lgs l k = G at *
      generalize hTe : wt l 0 k = T at *
      have hrn : (r == bt) = false := by simp; omega
      have SA := hS.setA ((A : Int) + (T : Int))
      have SD := SA.below (Below.refl _ _).drew
      obtain ⟨⟨⟨a0, a1, a2⟩, y0, y1, y2⟩, hrz2⟩ := SD.facts
      have FF0 := F0 _ SD.b
      have FF1 := F1 _ SD.b
      have DW : decide ((k : Int) < (mp : Int)) = true := by simpa using hlt
      go_wp2
      go_region
      generalize (wr.setCell ⟨r, 0, none⟩ (.int .i64 ((A : Int) + (T : Int)))).drew = wd at *
      clear c0 c1 c2 z0 z1 z2 hrz t0 hbt2 SA hS y0 y2 a0 a2
      have HAi : Hid (((Sm l 0 0 (k + 1) : Nat) : Int) = (A : Int) + (T : Int)) := by show _ = _; rw [HA.out]; simp
      by_cases hm : isM l k = true
      · obtain ⟨p1, p2⟩ := HPm.out hm
        have hor : xo = 11 ∨ xo = 0 := by
          unfold isM at hm
          rw [HG.out] at hm
          simpa using hm
        have HSP : Hid (spL l (k + 1) = spL l k) := spL_no (by rw [HG.out]; show xo ≠ 9; omega)
        have HP1 : Hid (Sm l 0 (frs l (k + 1)) (k + 1) = 0) := p1
        have HG1 : Hid (((lgs l (k + 1) : Nat) : Int) = if (G : Int) < (P : Int) + (T : Int) then (P : Int) + (T : Int) else (G : Int)) := by show _ = _; rw [p2]; split <;> omega
        have d9 : (xo == 9) = false := by simp; omega
        have SG := SD.setG (if (G : Int) < (P : Int) + (T : Int) then (P : Int) + (T : Int) else (G : Int))
        have FG := F0 _ SG.b
        clear p1 p2 HPn HPm HGn hm F0 F1 FF1 hTime
        rcases hor with rfl | rfl
        · go_wp2
          go_roundw
          case rel => exact ⟨k + 1, q, m, d, by omega, by go_num, by rw [HP1.out]; rfl, by show _ = _; rw [HSP.out]; exact HM.out, by rw [HAi.out, HG1.out, HSP.out]; exact SG⟩
          case measure => simp [intOf]; omega
        · go_wp2
          go_roundw
          case rel => exact ⟨k + 1, q, m, d, by omega, by go_num, by rw [HP1.out]; rfl, by show _ = _; rw [HSP.out]; exact HM.out, by rw [HAi.out, HG1.out, HSP.out]; exact SG⟩
          case measure => simp [intOf]; omega
      · have hm' : isM l k = false := by simpa using hm
        have HP1 : Hid (Sm l 0 (frs l (k + 1)) (k + 1) = P + T) := HPn.out hm'
        have HG1 : Hid (lgs l (k + 1) = G) := HGn.out hm'
        have hne : (xo == 11) = false ∧ (xo == 0) = false := by
          unfold isM at hm'
          rw [HG.out] at hm'
          simpa using hm'
        obtain ⟨d11, d0⟩ := hne
        clear HPn HPm HGn hm hm' a1 y1
        by_cases h9 : xo = 9
        · subst h9
          have h9' : (gt l k).1 = 9 := by rw [HG.out]
          obtain ⟨u, hpr⟩ := pr_of HP.out.pair hkl h9'
          have hu1 := hpr.lt
          have hu2 : u < mp := by have := hpr.le; rw [HN.out] at this; exact this
          have hsp := spn_of hpr
          have hsy := spL_yes (l := l) h9'
          rw [HG.out] at hsp
          simp only at hsp
          rw [hsp] at hsy
          have hdv := spn_ref HP.out hpr h9'
          rw [hTe] at hdv
          obtain ⟨bp, rfl, hbp, hbp2, u0⟩ := SD.pair hku
          rw [hpr.out] at u0
          obtain ⟨bt', ebt, hbt1, hbt3, t0⟩ := SD.time hlt
          obtain rfl : bt = bt' := by cases ebt; rfl
          rw [hTe] at t0
          have HW : Hid (∀ j, j < mp → wd.cell? ⟨bt, j, none⟩ = some (.int .i64 ((wt l 0 j : Nat) : Int))) := fun j hj => by
            obtain ⟨b', eb, _, _, h⟩ := SD.time hj
            obtain rfl : bt = b' := by cases eb; rfl
            exact h
          have HSb : Hid (∀ j, k + 1 ≤ j → j ≤ mp → Sm l 0 (k + 1) j ≤ 9600) := fun j h1 h2 => HP.out.sm_le h1 (by rw [HN.out]; exact h2)
          have HWb : Hid (∀ j, j < mp → wt l 0 j ≤ 400) := fun j hj => HP.out.wt_le (by rw [HN.out]; exact hj)
          have HSY : Hid (spL l (k + 1) = spL l k ++ [(xa, ((Sm l (k + 1) (k + 1) (u + 1) : Nat) : Int))]) := hsy
          have HDV : Hid (Sm l 0 (k + 1) (u + 1) / T = Sm l (k + 1) (k + 1) (u + 1)) := hdv
          clear hsp hsy hdv hpr h9' ebt F0 F1 hTime hku
          go_wp2
          go_loopw [10, 11] (fun s i wx => ∃ j : Nat, k + 1 ≤ j ∧ j ≤ u + 1 ∧ i = .int .i64 j ∧ s = .int .i64 ((Sm l 0 (k + 1) j : Nat) : Int) ∧ wx = wd) (fun _ i _ => u + 1 - (intOf i).toNat)
          case atStart => exact ⟨k + 1, Nat.le_refl _, by omega, by go_num, by rw [Sm_nil]; rfl, rfl⟩
          case round =>
            obtain ⟨j, hj1, hj2, rfl, rfl, hwx⟩ := hrel
            subst hwx
            have hSj := HSb.out j hj1 (by omega)
            by_cases hju : j ≤ u
            · have tj := HW.out j (by omega)
              have dj : decide ((j : Int) ≤ (u : Int)) = true := by simp; omega
              have hWj := HWb.out j (by omega)
              have HS : Hid (Sm l 0 (k + 1) (j + 1) = Sm l 0 (k + 1) j + wt l 0 j) := Sm_succ hj1
              generalize Sm l 0 (k + 1) j = S at *
              generalize wt l 0 j = Tj at *
              clear HSY HDV HSb HWb HW
              go_wp2
              go_roundw
              case rel => exact ⟨j + 1, by omega, by omega, by go_num, by rw [HS.out]; go_num, trivial⟩
              case measure => simp [intOf]; omega
            · obtain rfl : j = u + 1 := by omega
              have dj : decide (((u + 1 : Nat) : Int) ≤ (u : Int)) = false := by simp; omega
              have dj2 : decide ((u : Int) + 1 ≤ (u : Int)) = false := by simp; omega
              generalize Sm l 0 (k + 1) (u + 1) = S at *
              generalize Sm l (k + 1) (k + 1) (u + 1) = V at *
              have hq : (S : Int).tdiv (T : Int) = (V : Int) := by rw [← HDV.out]; rfl
              have hV : V ≤ 9600 := by rw [← HDV.out]; exact Nat.le_trans (Nat.div_le_self _ _) hSj
              have dT : ((T : Int) == 0) = false := by simp; omega
              have hTn : ¬ T = 0 := by omega
              have hwV : IntKind.i64.wrap (V : Int) = (V : Int) := wrap_c (by omega) (by omega)
              clear HDV HSb HWb HW hSj
              go_wp2
              obtain ⟨cbt, gbt⟩ := own_is SD.ot
              obtain ⟨⟨⟨c0, c1, c2⟩, z0, z1, z2⟩, hrz⟩ := SD.facts
              refine wp_region_held_drew (S := fun w' => w'.cell? ⟨b, o + k * 4 + 1, none⟩ = some (.int .i64 xa) ∧ w'.cell? ⟨bt, k, none⟩ = some (.int .i64 (T : Int))) (by kernel_rfl) ⟨FF1, t0⟩ (fun hHeld => ?_)
              refine wpAnyH_take (i := 0) (oi := _) (v := ?_) rfl (by kernel_rfl) (by kernel_rfl) (by kernel_rfl) (fun _ _ _ h => h) (Or.inl ⟨by rfl, ?_⟩) hHeld ?_
              rotate_left
              · intro w' hSw
                (go_simp <;> with_reducible rfl)
              try simp only [Act.put, List.getElem_toArray, List.getElem_cons_zero, List.setIfInBounds_toArray, List.set_cons_zero, List.set_cons_succ]
              refine wpAnyH_take (i := 2) (oi := _) (v := ?_) rfl (by kernel_rfl) (by kernel_rfl) (by kernel_rfl) (fun _ _ _ h => h) (Or.inl ⟨by rfl, ?_⟩) hHeld ?_
              rotate_left
              · intro w' hSw
                (go_simp <;> with_reducible rfl)
              try simp only [Act.put, List.getElem_toArray, List.getElem_cons_succ, List.getElem_cons_zero, List.setIfInBounds_toArray, List.set_cons_zero, List.set_cons_succ]
              refine wpAnyH_take (i := 3) (oi := _) (v := ?_) rfl (by kernel_rfl) (by kernel_rfl) (by kernel_rfl) (fun _ _ _ h => h) (Or.inl ⟨by rfl, ?_⟩) hHeld ?_
              rotate_left
              · intro w' hSw
                (go_simp <;> with_reducible rfl)
              try simp only [Act.put, List.getElem_toArray, List.getElem_cons_succ, List.getElem_cons_zero, List.setIfInBounds_toArray, List.set_cons_zero, List.set_cons_succ]
              refine wpAnyH_take (i := 4) (oi := _) (v := ?_) rfl (by kernel_rfl) (by kernel_rfl) (by kernel_rfl) (fun _ _ _ h => h) (Or.inl ⟨by rfl, ?_⟩) hHeld ?_
              rotate_left
              · intro w' hSw
                (go_simp <;> with_reducible rfl)
              try simp only [Act.put, List.getElem_toArray, List.getElem_cons_succ, List.getElem_cons_zero, List.setIfInBounds_toArray, List.set_cons_zero, List.set_cons_succ]
              refine wpAnyH_take (i := 5) (oi := _) (v := ?_) rfl (by kernel_rfl) (by kernel_rfl) (by kernel_rfl) (fun _ _ _ h => h) (Or.inl ⟨by rfl, ?_⟩) hHeld ?_
              rotate_left
              · intro w' hSw
                (go_simp <;> with_reducible rfl)
              try simp only [Act.put, List.getElem_toArray, List.getElem_cons_succ, List.getElem_cons_zero, List.setIfInBounds_toArray, List.set_cons_zero, List.set_cons_succ]
              refine wpAnyH_take (i := 6) (oi := _) (v := ?_) rfl (by kernel_rfl) (by kernel_rfl) (by kernel_rfl) (fun _ _ _ h => h) (Or.inl ⟨by rfl, ?_⟩) hHeld ?_
              rotate_left
              · intro w' hSw
                obtain ⟨k5, _⟩ := hSw
                (go_simp <;> with_reducible rfl)
              try simp only [Act.put, List.getElem_toArray, List.getElem_cons_succ, List.getElem_cons_zero, List.setIfInBounds_toArray, List.set_cons_zero, List.set_cons_succ]
              refine wpAnyH_take (i := 7) (oi := _) (v := ?_) rfl (by kernel_rfl) (by kernel_rfl) (by kernel_rfl) (fun _ _ _ h => h) (Or.inl ⟨by rfl, ?_⟩) hHeld ?_
              rotate_left
              · intro w' hSw
                (go_simp <;> with_reducible rfl)
              try simp only [Act.put, List.getElem_toArray, List.getElem_cons_succ, List.getElem_cons_zero, List.setIfInBounds_toArray, List.set_cons_zero, List.set_cons_succ]
              refine wpAnyH_take (i := 8) (oi := _) (v := ?_) rfl (by kernel_rfl) (by kernel_rfl) (by kernel_rfl) (fun _ _ _ h => h) (Or.inl ⟨by rfl, ?_⟩) hHeld ?_
              rotate_left
              · intro w' hSw
                (go_simp <;> with_reducible rfl)
              try simp only [Act.put, List.getElem_toArray, List.getElem_cons_succ, List.getElem_cons_zero, List.setIfInBounds_toArray, List.set_cons_zero, List.set_cons_succ]
              refine wpAnyH_take (i := 9) (oi := _) (v := ?_) rfl (by kernel_rfl) (by kernel_rfl) (by kernel_rfl) (fun _ _ _ h => h) (Or.inl ⟨by rfl, ?_⟩) hHeld ?_
              rotate_left
              · intro w' hSw
                (go_simp <;> with_reducible rfl)
              try simp only [Act.put, List.getElem_toArray, List.getElem_cons_succ, List.getElem_cons_zero, List.setIfInBounds_toArray, List.set_cons_zero, List.set_cons_succ]
              refine wpAnyH_take (i := 10) (oi := _) (v := ?_) rfl (by kernel_rfl) (by kernel_rfl) (by kernel_rfl) (fun _ _ _ h => h) (Or.inl ⟨by rfl, ?_⟩) hHeld ?_
              rotate_left
              · intro w' hSw
                (go_simp <;> with_reducible rfl)
              try simp only [Act.put, List.getElem_toArray, List.getElem_cons_succ, List.getElem_cons_zero, List.setIfInBounds_toArray, List.set_cons_zero, List.set_cons_succ]
              refine wpAnyH_take (i := 11) (oi := _) (v := ?_) rfl (by kernel_rfl) (by kernel_rfl) (by kernel_rfl) (fun _ _ _ h => h) (Or.inl ⟨by rfl, ?_⟩) hHeld ?_
              rotate_left
              · intro w' hSw
                obtain ⟨_, k5⟩ := hSw
                (go_simp <;> with_reducible rfl)
              try simp only [Act.put, List.getElem_toArray, List.getElem_cons_succ, List.getElem_cons_zero, List.setIfInBounds_toArray, List.set_cons_zero, List.set_cons_succ]
              refine wpAnyH_take (i := 12) (oi := _) (v := ?_) rfl (by kernel_rfl) (by kernel_rfl) (by kernel_rfl) (fun _ _ _ h => h) (Or.inl ⟨by rfl, ?_⟩) hHeld ?_
              rotate_left
              · intro w' hSw
                (go_simp <;> with_reducible rfl)
              try simp only [Act.put, List.getElem_toArray, List.getElem_cons_succ, List.getElem_cons_zero, List.setIfInBounds_toArray, List.set_cons_zero, List.set_cons_succ]
              refine wpAnyH_take (i := 13) (oi := _) (v := ?_) rfl (by kernel_rfl) (by kernel_rfl) (by kernel_rfl) (fun _ _ _ h => h) (Or.inl ⟨by rfl, ?_⟩) hHeld ?_
              rotate_left
              · intro w' hSw
                (go_simp <;> with_reducible rfl)
              try simp only [Act.put, List.getElem_toArray, List.getElem_cons_succ, List.getElem_cons_zero, List.setIfInBounds_toArray, List.set_cons_zero, List.set_cons_succ]
              refine wpAnyH_ready (rs := [1, 14]) (by kernel_rfl) (by simp) ?_
              refine AllReadyH.cons (o := _) rfl (fun K hK => ?_) (AllReadyH.cons (o := _) rfl (fun K hK => ?_) AllReadyH.nil)
              · go_simp
                refine hK.out _ _ ⟨FF1, t0⟩ (fun hHeld => ?_)
                clear hK K
                try simp only [Act.put, List.getElem_toArray, List.getElem_cons_succ, List.getElem_cons_zero, List.setIfInBounds_toArray, List.set_cons_zero, List.set_cons_succ]
                have x1 : (wr.alloc (Obj.cells #[Value.int IntKind.i64 xa, Value.int IntKind.i64 (V : Int)] 36)).cell? ⟨b, o + k * 4 + 1, none⟩ = some (.int .i64 xa) := (((Below.refl _ wr).alloc (Nat.le_refl _) _).cell (p := ⟨b, o + k * 4 + 1, none⟩) (lt_of_cell FF1)).trans FF1
                have x2 : (wr.alloc (Obj.cells #[Value.int IntKind.i64 xa, Value.int IntKind.i64 (V : Int)] 36)).cell? ⟨bt, k, none⟩ = some (.int .i64 (T : Int)) := (((Below.refl _ wr).alloc (Nat.le_refl _) _).cell (p := ⟨bt, k, none⟩) hbt3).trans t0
                have x3 : (wr.alloc (Obj.cells #[Value.int IntKind.i64 xa, Value.int IntKind.i64 (V : Int)] 36)).cell? ⟨r, 2, none⟩ = some (.slice q m d) := (((Below.refl _ wr).alloc (Nat.le_refl _) _).cell (p := ⟨r, 2, none⟩) hrz).trans c2
                refine wpAnyH_ready (rs := [14]) (by kernel_rfl) (by simp) ?_
                refine AllReadyH.cons (o := _) rfl (fun K hK => ?_) AllReadyH.nil
                go_simp
                refine hK.out _ _ ⟨x1, x2⟩ (fun hHeld => ?_)
                clear hK K
                try simp only [Act.put, List.getElem_toArray, List.getElem_cons_succ, List.getElem_cons_zero, List.setIfInBounds_toArray, List.set_cons_zero, List.set_cons_succ]
                refine wpAnyH_ready (rs := [15]) (by kernel_rfl) (by simp) ?_
                refine AllReadyH.cons (o := _) rfl (fun K hK => ?_) AllReadyH.nil
                refine step_app tSp _ rfl _ _ rfl (r + 1) q d (spL l k) m HM.out.symm rfl (own_below SD.os (((Below.refl _ _).alloc (Nat.le_refl _) _).drew)) _ _ [(xa, (V : Int))] 1 rfl rfl ((rd_sp (heap_alloc_new wr _)).below ((Below.refl _ _).drew)) (by omega) (by simp; omega) (m + 1) rfl ?_
                intro p7 c7 w7 ho7 hb7a hst7a
                have hb7 := ((Below.refl (r + 1) (wr.alloc (Obj.cells #[Value.int IntKind.i64 xa, Value.int IntKind.i64 (V : Int)] 36))).drew).trans hb7a
                have hst7 : Stays (wr.alloc (Obj.cells #[Value.int IntKind.i64 xa, Value.int IntKind.i64 (V : Int)] 36)) w7 q := hst7a
                have S7 := Cs.app (m7 := m + 1) SD ho7 hb7 hst7
                have y1 : w7.cell? ⟨b, o + k * 4 + 1, none⟩ = some (.int .i64 xa) := (hb7.cell (p := ⟨b, o + k * 4 + 1, none⟩) (by have := SD.lt; show b < r + 1; omega)).trans x1
                have y2 : w7.cell? ⟨bt, k, none⟩ = some (.int .i64 (T : Int)) := (World.cell?_of_block (a := ⟨bt, k, none⟩) (hst7 bt (by simp; omega) (own_apart SD.os gbt (by decide)))).trans x2
                have y3 : w7.heap[r]? = _ := (hb7.block r (by omega)).trans ((Below.heap_alloc _ _ _ hrz).trans SD.c)
                obtain ⟨⟨v0, v1, v2⟩, n0, n1, n2⟩ := cellT y3
                refine hK.out _ _ ⟨y1, y2⟩ (fun hHeld => ?_)
                clear hK K
                try simp only [Act.put, List.getElem_toArray, List.getElem_cons_succ, List.getElem_cons_zero, List.setIfInBounds_toArray, List.set_cons_zero, List.set_cons_succ]
                refine wpAnyH_take (i := 16) (oi := _) (v := ?_) rfl (by kernel_rfl) (by kernel_rfl) (by kernel_rfl) (fun _ _ _ h => h) (Or.inl ⟨by rfl, ?_⟩) hHeld ?_
                rotate_left
                · intro w' hSw
                  (go_simp <;> with_reducible rfl)
                try simp only [Act.put, List.getElem_toArray, List.getElem_cons_succ, List.getElem_cons_zero, List.setIfInBounds_toArray, List.set_cons_zero, List.set_cons_succ]
                refine wpAnyH_ready (rs := [17]) (by kernel_rfl) (by simp) ?_
                refine AllReadyH.cons (o := _) rfl (fun K hK => ?_) AllReadyH.nil
                go_simp
                have s1 : (w7.setCell ⟨r, 2, none⟩ (.slice p7 (m + 1) c7)).cell? ⟨b, o + k * 4 + 1, none⟩ = some (.int .i64 xa) := (World.cell?_of_block (a := ⟨b, o + k * 4 + 1, none⟩) (heap_setCell_other _ _ _ _ (by show b ≠ r; have := SD.lt; omega))).trans y1
                have s2 : (w7.setCell ⟨r, 2, none⟩ (.slice p7 (m + 1) c7)).cell? ⟨bt, k, none⟩ = some (.int .i64 (T : Int)) := (World.cell?_of_block (a := ⟨bt, k, none⟩) (heap_setCell_other _ _ _ _ (by show bt ≠ r; omega))).trans y2
                refine hK.out _ _ ⟨s1, s2⟩ (fun hHeld => ?_)
                clear hK K
                refine wpAnyH_done (by kernel_rfl) ?_ _
                clear hHeld s1 s2 y1 y2 y3 x1 x2 x3 v0 v1 v2 n0 n1 n2 hst7 hb7 hst7a hb7a ho7
                go_wp2
                go_roundw
                case rel => exact ⟨k + 1, p7, m + 1, c7, by omega, by go_num, by rw [HP1.out]; go_num, by show _ = _; rw [HSY.out, List.length_append, ← HM.out]; rfl, by rw [HAi.out, HG1.out, HSY.out]; exact S7⟩
                case measure => simp [intOf]; omega
              · have x1 : (wr.alloc (Obj.cells #[Value.int IntKind.i64 xa, Value.int IntKind.i64 (V : Int)] 36)).cell? ⟨b, o + k * 4 + 1, none⟩ = some (.int .i64 xa) := (((Below.refl _ wr).alloc (Nat.le_refl _) _).cell (p := ⟨b, o + k * 4 + 1, none⟩) (lt_of_cell FF1)).trans FF1
                have x2 : (wr.alloc (Obj.cells #[Value.int IntKind.i64 xa, Value.int IntKind.i64 (V : Int)] 36)).cell? ⟨bt, k, none⟩ = some (.int .i64 (T : Int)) := (((Below.refl _ wr).alloc (Nat.le_refl _) _).cell (p := ⟨bt, k, none⟩) hbt3).trans t0
                have x3 : (wr.alloc (Obj.cells #[Value.int IntKind.i64 xa, Value.int IntKind.i64 (V : Int)] 36)).cell? ⟨r, 2, none⟩ = some (.slice q m d) := (((Below.refl _ wr).alloc (Nat.le_refl _) _).cell (p := ⟨r, 2, none⟩) hrz).trans c2
                go_simp
                refine hK.out _ _ ⟨x1, x2⟩ (fun hHeld => ?_)
                clear hK K
                try simp only [Act.put, List.getElem_toArray, List.getElem_cons_succ, List.getElem_cons_zero, List.setIfInBounds_toArray, List.set_cons_zero, List.set_cons_succ]
                refine wpAnyH_ready (rs := [1]) (by kernel_rfl) (by simp) ?_
                refine AllReadyH.cons (o := _) rfl (fun K hK => ?_) AllReadyH.nil
                go_simp
                refine hK.out _ _ ⟨x1, x2⟩ (fun hHeld => ?_)
                clear hK K
                try simp only [Act.put, List.getElem_toArray, List.getElem_cons_succ, List.getElem_cons_zero, List.setIfInBounds_toArray, List.set_cons_zero, List.set_cons_succ]
                refine wpAnyH_ready (rs := [15]) (by kernel_rfl) (by simp) ?_
                refine AllReadyH.cons (o := _) rfl (fun K hK => ?_) AllReadyH.nil
                refine step_app tSp _ rfl _ _ rfl (r + 1) q d (spL l k) m HM.out.symm rfl (own_below SD.os (((Below.refl _ _).alloc (Nat.le_refl _) _).drew)) _ _ [(xa, (V : Int))] 1 rfl rfl ((rd_sp (heap_alloc_new wr _)).below ((Below.refl _ _).drew)) (by omega) (by simp; omega) (m + 1) rfl ?_
                intro p7 c7 w7 ho7 hb7a hst7a
                have hb7 := ((Below.refl (r + 1) (wr.alloc (Obj.cells #[Value.int IntKind.i64 xa, Value.int IntKind.i64 (V : Int)] 36))).drew).trans hb7a
                have hst7 : Stays (wr.alloc (Obj.cells #[Value.int IntKind.i64 xa, Value.int IntKind.i64 (V : Int)] 36)) w7 q := hst7a
                have S7 := Cs.app (m7 := m + 1) SD ho7 hb7 hst7
                have y1 : w7.cell? ⟨b, o + k * 4 + 1, none⟩ = some (.int .i64 xa) := (hb7.cell (p := ⟨b, o + k * 4 + 1, none⟩) (by have := SD.lt; show b < r + 1; omega)).trans x1
                have y2 : w7.cell? ⟨bt, k, none⟩ = some (.int .i64 (T : Int)) := (World.cell?_of_block (a := ⟨bt, k, none⟩) (hst7 bt (by simp; omega) (own_apart SD.os gbt (by decide)))).trans x2
                have y3 : w7.heap[r]? = _ := (hb7.block r (by omega)).trans ((Below.heap_alloc _ _ _ hrz).trans SD.c)
                obtain ⟨⟨v0, v1, v2⟩, n0, n1, n2⟩ := cellT y3
                refine hK.out _ _ ⟨y1, y2⟩ (fun hHeld => ?_)
                clear hK K
                try simp only [Act.put, List.getElem_toArray, List.getElem_cons_succ, List.getElem_cons_zero, List.setIfInBounds_toArray, List.set_cons_zero, List.set_cons_succ]
                refine wpAnyH_take (i := 16) (oi := _) (v := ?_) rfl (by kernel_rfl) (by kernel_rfl) (by kernel_rfl) (fun _ _ _ h => h) (Or.inl ⟨by rfl, ?_⟩) hHeld ?_
                rotate_left
                · intro w' hSw
                  (go_simp <;> with_reducible rfl)
                try simp only [Act.put, List.getElem_toArray, List.getElem_cons_succ, List.getElem_cons_zero, List.setIfInBounds_toArray, List.set_cons_zero, List.set_cons_succ]
                refine wpAnyH_ready (rs := [17]) (by kernel_rfl) (by simp) ?_
                refine AllReadyH.cons (o := _) rfl (fun K hK => ?_) AllReadyH.nil
                go_simp
                have s1 : (w7.setCell ⟨r, 2, none⟩ (.slice p7 (m + 1) c7)).cell? ⟨b, o + k * 4 + 1, none⟩ = some (.int .i64 xa) := (World.cell?_of_block (a := ⟨b, o + k * 4 + 1, none⟩) (heap_setCell_other _ _ _ _ (by show b ≠ r; have := SD.lt; omega))).trans y1
                have s2 : (w7.setCell ⟨r, 2, none⟩ (.slice p7 (m + 1) c7)).cell? ⟨bt, k, none⟩ = some (.int .i64 (T : Int)) := (World.cell?_of_block (a := ⟨bt, k, none⟩) (heap_setCell_other _ _ _ _ (by show bt ≠ r; omega))).trans y2
                refine hK.out _ _ ⟨s1, s2⟩ (fun hHeld => ?_)
                clear hK K
                refine wpAnyH_done (by kernel_rfl) ?_ _
                clear hHeld s1 s2 y1 y2 y3 x1 x2 x3 v0 v1 v2 n0 n1 n2 hst7 hb7 hst7a hb7a ho7
                go_wp2
                go_roundw
                case rel => exact ⟨k + 1, p7, m + 1, c7, by omega, by go_num, by rw [HP1.out]; go_num, by show _ = _; rw [HSY.out, List.length_append, ← HM.out]; rfl, by rw [HAi.out, HG1.out, HSY.out]; exact S7⟩
                case measure => simp [intOf]; omega
        · have d9 : (xo == 9) = false := by simpa using h9
          have HSP : Hid (spL l (k + 1) = spL l k) := spL_no (by rw [HG.out]; exact h9)
          clear F0 F1 FF1 hTime
          go_wp2
          go_roundw
          case rel => exact ⟨k + 1, q, m, d, by omega, by go_num, by rw [HP1.out]; go_num, by show _ = _; rw [HSP.out]; exact HM.out, by rw [HAi.out, HG1.out, HSP.out]; exact SD⟩
          case measure => simp [intOf]; omega
    · obtain rfl : k = mp := by omega
      have dk : decide ((k : Int) < (k : Int)) = false := by simp
      obtain ⟨⟨⟨c0, c1, c2⟩, z0, z1, z2⟩, hrz⟩ := hS.facts
      obtain ⟨⟨k0, k1, k2⟩, v0, v1, v2⟩ := cellT hS.g
      have hg0 := lt_of_block hS.g
      generalize hAe : Sm l 0 0 k = A at *
      generalize hGe : lgs l k = G at *
      have hl := hS.lt
      have hrg : (r == w.heap.size) = false := by simp; omega
      obtain ⟨gf, of, bf⟩ := st3 hS.g hS.os (by omega) hS.b (Nat.le_refl _) (.int .i64 (A : Int)) (.int .i64 (G : Int)) (.slice q m d)
      go_wp2
      refine bodyPost_ret (v := .tuple #[.agg #[.int .i64 (A : Int), .int .i64 (G : Int), .slice q m d], .bool true]) (res14 rfl rfl gf rfl) rfl ?_
      exact ⟨⟨q, d, m, by rw [hAe, hGe], HM.out, own_mono of (by omega)⟩, bf⟩
end Go.Proofs.Yteikdocpncdheaa
