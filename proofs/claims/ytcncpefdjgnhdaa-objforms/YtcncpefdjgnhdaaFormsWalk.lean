/-
  The walk of ObjForms.
-/
import Derived.Test.YtcncpefdjgnhdaaFormsMath
import Derived.Test.YtcncpefdjgnhdaaBegun
import Derived.Test.YtcncpefdjgnhdaaKepts
import Derived.Test.YtcncpefdjgnhdaaHand
import Derived.Test.YtcncpefdjgnhdaaKeeps
import Derived.Deep.Cut
import Derived.Deep.CutRange
namespace Go.Proofs.Ytcncpefdjgnhdaa
open Go.ChangeShapes Go.WideShapes Go.ChangeAt Go.RowKit
attribute [local go_sem ↓] Go.wp_at_zero Go.wp_at_succ

theorem kinds_c (n : Nat) (k : Int) (hk : kd n = k) : 1 ≤ k ∧ k ≤ 3 := by subst hk; unfold kd; omega
set_option maxRecDepth 20000 in
set_option maxHeartbeats 4000000 in
theorem forms_walk (w : World) : Calls Try.prog 5 #[] w fun e w' => e = .returned (.bool true) ∧ Below w.heap.size w w' := by
  have i0 : (Lit.int .i64 0).wf = true := rfl
  have i1 : (Lit.int .i64 1).wf = true := rfl
  have i2 : (Lit.int .i64 2).wf = true := rfl
  have i4 : (Lit.int .i64 4).wf = true := rfl
  obtain ⟨KL, hKL⟩ : ∃ KL : List Int, KL = [1, 2, 3, 1, 2, 3, 1, 2, 3, 1, 2, 3] := ⟨_, rfl⟩
  have HKL : Hid (KL.length = 12 ∧ ∀ n, n < 12 → KL.getD n 0 = kd n) := by subst hKL; exact ⟨rfl, f_kd⟩
  go_enter Try.func5, Try.ntmps5
  go_wp2_with (first
    | (go_at_call 8; refine (begun_any _).mono ?_; rintro e w1 ⟨rfl, b1⟩)
    | (go_at_call 9; refine (new_any _).mono ?_; rintro e w2 ⟨y0, rfl, t0, b2⟩))
  obtain ⟨A, hA⟩ : ∃ A : Obj, A = .cells #[.slice y0.gp 12 y0.gc, .slice y0.ip 12 y0.ic, .slice y0.tp 12 y0.tc] 30 := ⟨_, rfl⟩
  obtain ⟨Bo, hBo⟩ : ∃ Bo : Obj, Bo = .cells #[.int .i64 1, .int .i64 2, .int .i64 3, .int .i64 1, .int .i64 2, .int .i64 3, .int .i64 1, .int .i64 2, .int .i64 3, .int .i64 1, .int .i64 2, .int .i64 3] 3 := ⟨_, rfl⟩
  have s2 := bel_self w2 A
  have s3 := bel_self (w2.alloc A) Bo
  have hV0 : Vw ((w2.alloc A).alloc Bo) w2.heap.size y0 30 := by subst hA; exact (Vw.new w2 y0 30).below s3
  have ht0 := (t0.below s2).below s3
  have b0 := bel_call (bel_call (bel_call b1 (Nat.le_refl _) b2) (Nat.le_refl _) s2) (Nat.le_refl _) s3
  have hkr0 : Rd eI ((w2.alloc A).alloc Bo) (some ⟨w2.heap.size + 1, 0, none⟩) 12 KL := by subst hBo; subst hKL; exact rd_block (heap_at (by simp)) 12 rfl rfl
  obtain ⟨g, hg⟩ : ∃ g, g = w2.heap.size := ⟨_, rfl⟩
  have hgw : w.heap.size ≤ g := by have h1 := b1.size; have h2 := b2.size; omega
  have hgl : g < ((w2.alloc A).alloc Bo).heap.size := by subst hg; exact hV0.lt
  rw [← hg] at hV0 hkr0
  try rw [← hA]
  try rw [← hBo]
  simp only [← hg]
  generalize (w2.alloc A).alloc Bo = W0 at *
  clear hA hBo hg b1 b2 s2 s3 t0 hKL
  have hsz0 : Below w.heap.size w W0 := b0
  go_loopw [3] (fun i wr => ∃ (n : Nat) (y : Tw), n ≤ 12 ∧ i = .int .i64 n ∧ Vw wr g y 30 ∧ Tr wr y (fT n) ∧ Rd eI wr (some ⟨g + 1, 0, none⟩) 12 KL ∧ Below w.heap.size w wr ∧ W0.heap.size ≤ wr.heap.size) (fun i _ => 12 - (intOf i).toNat)
  case atStart => exact ⟨0, y0, Nat.zero_le _, rfl, hV0, ht0, hkr0, hsz0, Nat.le_refl _⟩
  case round =>
    obtain ⟨n, y, hn, rfl, hV, ht, hkr, hbw, hle⟩ := hrel
    clear hV0 ht0 hkr0 b0 hsz0
    by_cases hlt : n < 12
    · have hnI : (n : Int) < 12 := by omega
      have hnZ : (0 : Int) ≤ (n : Int) := by omega
      obtain ⟨kb, ko, ek, hkb, hkc⟩ := hkr.num n (by rw [HKL.out.1]; exact hlt)
      have hkn : KL[n]'(by rw [HKL.out.1]; exact hlt) = kd n := by
        have h := HKL.out.2 n hlt
        rw [List.getD_eq_getElem?_getD, List.getElem?_eq_getElem (by rw [HKL.out.1]; exact hlt)] at h
        exact h
      rw [hkn] at hkc
      obtain ⟨rfl, rfl⟩ : kb = g + 1 ∧ ko = 0 := by cases ek; exact ⟨rfl, rfl⟩
      obtain ⟨kn, hkk⟩ : ∃ kn, kd n = kn := ⟨_, rfl⟩
      obtain ⟨kb, hkbe⟩ : ∃ kb, kb = g + 1 := ⟨_, rfl⟩
      rw [← hkbe] at hkc hkb
      rw [hkk, Nat.zero_add] at hkc
      have HF : Hid (mkOk (fT n) kn = true ∧ mkA (fT n) kn = (n : Int) ∧ mkG (fT n) kn = 1) := by have h := f_ok n hlt; rw [hkk] at h; exact h
      have HT : Hid (fT (n + 1) = mkR (fT n) kn) := by show _ = _; rw [fT, hkk]
      have HQ : Hid (((fT (n + 1)).T.getD n th0).k = kn ∧ (decide (((fT (n + 1)).T.getD n th0).c = 8) = decide (kn = 1))) := by have h := f_th n hlt; rw [hkk] at h; exact h
      have HK : Hid (1 ≤ kn ∧ kn ≤ 3) := kinds_c n kn hkk
      have HE : Hid (kb = g + 1) := hkbe
      clear ek hkn hkk
      go_upto_region 8 with fail
      simp only [← hkbe]
      clear hkbe
      go_cut [4, 5, 6] from 43 to 57 (fun a q o wx => ∃ (gx gh : Nat) (z : Tw), a = .pointer (some ⟨gx, 0, none⟩) ∧ q = .pointer (some ⟨gh, 0, none⟩) ∧ o = .bool true ∧ Lv wx gx (eTb.enc z).toArray 30 ∧ Lv wx gh (eH.enc ((n : Int), (1 : Int))).toArray 38 ∧ Tr wx z (mkR (fT n) kn) ∧ Below wr.heap.size wr wx ∧ wr.heap.size ≤ gx ∧ wr.heap.size ≤ gh ∧ gx ≠ gh)
      case first =>
        obtain ⟨W1, hW1⟩ : ∃ W1, W1 = wr := ⟨_, rfl⟩
        subst hW1
        refine wp_region_held_drew (S := fun w' => Below W1.heap.size W1 w') (by kernel_rfl) (Below.refl _ _).drew (fun hHeld => ?_)
        have bel : Below W1.heap.size W1 W1.drew := (Below.refl _ _).drew
        generalize W1.drew = wd at *
        refine wpAnyH_take (i := 0) (oi := _) (v := ?_) rfl (by kernel_rfl) (by kernel_rfl) (by kernel_rfl) (fun _ _ _ h => h) (Or.inl ⟨by rfl, ?_⟩) hHeld ?_
        rotate_left
        · intro w' hSw
          obtain ⟨e0, e1, e2⟩ := (hV.below hSw).at
          (go_simp <;> with_reducible rfl)
        try simp only [Act.put, List.getElem_toArray, List.getElem_cons_zero, List.setIfInBounds_toArray, List.set_cons_zero, List.set_cons_succ]
        refine wpAnyH_take (i := 1) (oi := _) (v := ?_) rfl (by kernel_rfl) (by kernel_rfl) (by kernel_rfl) (fun _ _ _ h => h) (Or.inl ⟨by rfl, ?_⟩) hHeld ?_
        rotate_left
        · intro w' hSw
          (go_simp <;> with_reducible rfl)
        try simp only [Act.put, List.getElem_toArray, List.getElem_cons_succ, List.getElem_cons_zero, List.setIfInBounds_toArray, List.set_cons_zero, List.set_cons_succ]
        refine wpAnyH_take (i := 2) (oi := _) (v := ?_) rfl (by kernel_rfl) (by kernel_rfl) (by kernel_rfl) (fun _ _ _ h => h) (Or.inl ⟨by rfl, ?_⟩) hHeld ?_
        rotate_left
        · intro w' hSw
          (go_simp <;> with_reducible rfl)
        try simp only [Act.put, List.getElem_toArray, List.getElem_cons_succ, List.getElem_cons_zero, List.setIfInBounds_toArray, List.set_cons_zero, List.set_cons_succ]
        refine wpAnyH_take (i := 3) (oi := _) (v := ?_) rfl (by kernel_rfl) (by kernel_rfl) (by kernel_rfl) (fun _ _ _ h => h) (Or.inl ⟨by rfl, ?_⟩) hHeld ?_
        rotate_left
        · intro w' hSw
          (go_simp <;> with_reducible rfl)
        try simp only [Act.put, List.getElem_toArray, List.getElem_cons_succ, List.getElem_cons_zero, List.setIfInBounds_toArray, List.set_cons_zero, List.set_cons_succ]
        refine wpAnyH_take (i := 4) (oi := _) (v := ?_) rfl (by kernel_rfl) (by kernel_rfl) (by kernel_rfl) (fun _ _ _ h => h) (Or.inl ⟨by rfl, ?_⟩) hHeld ?_
        rotate_left
        · intro w' hSw
          have f0 : w'.cell? ⟨kb, n, none⟩ = some (.int .i64 kn) := (hSw.cell (p := ⟨kb, n, none⟩) hkb).trans hkc
          (go_simp <;> with_reducible rfl)
        try simp only [Act.put, List.getElem_toArray, List.getElem_cons_succ, List.getElem_cons_zero, List.setIfInBounds_toArray, List.set_cons_zero, List.set_cons_succ]
        refine wpAnyH_ready (rs := [5, 10, 11]) (by kernel_rfl) (by simp) ?_
        refine AllReadyH.cons (o := _) rfl (fun K hK => ?_) (AllReadyH.cons (o := _) rfl (fun K hK => ?_) (AllReadyH.cons (o := _) rfl (fun K hK => ?_) (AllReadyH.nil)))
        · go_simp
          go_at_call 22; refine (make_n y (fT n) n _ (ht.below bel) (fT_wf n) (by omega) kn true HF.out.1 (n : Int) 1 HF.out.2.1 HF.out.2.2).mono ?_
          rintro e w3 ⟨z, rfl, ⟨gl, xs, ow⟩, b3⟩
          have bel := bel_call bel (Nat.le_refl _) b3
          have M : Kept wd.heap.size w3 w3 := Kept.refl _ _
          refine hK.out _ _ bel (fun hHeld => ?_)
          clear hK K
          try simp only [Act.put, List.getElem_toArray, List.getElem_cons_succ, List.getElem_cons_zero, List.setIfInBounds_toArray, List.set_cons_zero, List.set_cons_succ]
          refine wpAnyH_take (i := 6) (oi := _) (v := ?_) rfl (by kernel_rfl) (by kernel_rfl) (by kernel_rfl) (fun _ _ _ h => h) (Or.inl ⟨by rfl, ?_⟩) hHeld ?_
          rotate_left
          · intro w' hSw
            (go_simp <;> with_reducible rfl)
          try simp only [Act.put, List.getElem_toArray, List.getElem_cons_succ, List.getElem_cons_zero, List.setIfInBounds_toArray, List.set_cons_zero, List.set_cons_succ]
          refine wpAnyH_take (i := 7) (oi := _) (v := ?_) rfl (by kernel_rfl) (by kernel_rfl) (by kernel_rfl) (fun _ _ _ h => h) (Or.inl ⟨by rfl, ?_⟩) hHeld ?_
          rotate_left
          · intro w' hSw
            (go_simp <;> with_reducible rfl)
          try simp only [Act.put, List.getElem_toArray, List.getElem_cons_succ, List.getElem_cons_zero, List.setIfInBounds_toArray, List.set_cons_zero, List.set_cons_succ]
          refine wpAnyH_take (i := 8) (oi := _) (v := ?_) rfl (by kernel_rfl) (by kernel_rfl) (by kernel_rfl) (fun _ _ _ h => h) (Or.inl ⟨by rfl, ?_⟩) hHeld ?_
          rotate_left
          · intro w' hSw
            (go_simp <;> with_reducible rfl)
          try simp only [Act.put, List.getElem_toArray, List.getElem_cons_succ, List.getElem_cons_zero, List.setIfInBounds_toArray, List.set_cons_zero, List.set_cons_succ]
          refine wpAnyH_take (i := 9) (oi := _) (v := ?_) rfl (by kernel_rfl) (by kernel_rfl) (by kernel_rfl) (fun _ _ _ h => h) (Or.inl ⟨by rfl, ?_⟩) hHeld ?_
          rotate_left
          · intro w' hSw
            (go_simp <;> with_reducible rfl)
          try simp only [Act.put, List.getElem_toArray, List.getElem_cons_succ, List.getElem_cons_zero, List.setIfInBounds_toArray, List.set_cons_zero, List.set_cons_succ]
          refine wpAnyH_ready (rs := [10, 11]) (by kernel_rfl) (by simp) ?_
          refine AllReadyH.cons (o := _) rfl (fun K hK => ?_) (AllReadyH.cons (o := _) rfl (fun K hK => ?_) (AllReadyH.nil))
          · go_simp
            have ba := bel_self w3 (.cells #[.slice none 0 0, .slice none 0 0, .slice none 0 0] 30)
            have LX : Lv (w3.alloc (.cells #[.slice none 0 0, .slice none 0 0, .slice none 0 0] 30)) w3.heap.size #[.slice none 0 0, .slice none 0 0, .slice none 0 0] 30 := Lv.new _ _ _
            have hms := M.size
            have M := M.below ba
            have hX0 : W1.heap.size ≤ w3.heap.size := bel.size
            have bel := bel_call bel (Nat.le_refl _) ba
            refine hK.out _ _ bel (fun hHeld => ?_)
            clear hK K
            obtain ⟨gx, hg⟩ : ∃ g, g = w3.heap.size := ⟨_, rfl⟩
            have hXc : gx < wd.heap.size ∨ w3.heap.size ≤ gx := Or.inr (by rw [hg]; exact hms)
            clear hms
            rw [← hg] at LX hX0
            try simp only [← hg]
            clear hg ba
            generalize w3.alloc (.cells #[.slice none 0 0, .slice none 0 0, .slice none 0 0] 30) = waX at *
            try simp only [Act.put, List.getElem_toArray, List.getElem_cons_succ, List.getElem_cons_zero, List.setIfInBounds_toArray, List.set_cons_zero, List.set_cons_succ]
            refine wpAnyH_ready (rs := [11]) (by kernel_rfl) (by simp) ?_
            refine AllReadyH.cons (o := _) rfl (fun K hK => ?_) (AllReadyH.nil)
            go_simp
            have ba := bel_self waX (.cells #[.int .i64 0, .int .i64 0] 38)
            have LH : Lv (waX.alloc (.cells #[.int .i64 0, .int .i64 0] 38)) waX.heap.size #[.int .i64 0, .int .i64 0] 38 := Lv.new _ _ _
            have LX := LX.below ba
            have hms := M.size
            have M := M.below ba
            have hH0 : W1.heap.size ≤ waX.heap.size := bel.size
            have bel := bel_call bel (Nat.le_refl _) ba
            refine hK.out _ _ bel (fun hHeld => ?_)
            clear hK K
            obtain ⟨gh, hg⟩ : ∃ g, g = waX.heap.size := ⟨_, rfl⟩
            have hHc : gh < wd.heap.size ∨ w3.heap.size ≤ gh := Or.inr (by rw [hg]; exact hms)
            clear hms
            rw [← hg] at LH hH0
            try simp only [← hg]
            clear hg ba
            generalize waX.alloc (.cells #[.int .i64 0, .int .i64 0] 38) = waH at *
            try simp only [Act.put, List.getElem_toArray, List.getElem_cons_succ, List.getElem_cons_zero, List.setIfInBounds_toArray, List.set_cons_zero, List.set_cons_succ]
            refine wpAnyH_ready (rs := [12]) (by kernel_rfl) (by simp) ?_
            refine AllReadyH.cons (o := _) rfl (fun K hK => ?_) (AllReadyH.nil)
            have hne : gx ≠ gh := LX.ne LH (by decide)
            refine step_stV (E := eTb) rfl 30 _ _ rfl size30 gx _ LX rfl z rfl rfl ?_
            intro wsX LX2 k9
            have LX := LX2
            clear LX2
            have LH := LH.kp k9 hne.symm
            have M := M.kp k9 hXc
            have bel := bel_kp bel k9 hX0 bel.size
            refine hK.out _ _ bel (fun hHeld => ?_)
            clear hK K
            clear k9
            try simp only [Act.put, List.getElem_toArray, List.getElem_cons_succ, List.getElem_cons_zero]
            refine wpAnyH_ready (rs := [13]) (by kernel_rfl) (by simp) ?_
            refine AllReadyH.cons (o := _) rfl (fun K hK => ?_) (AllReadyH.nil)
            refine step_stV (E := eH) rfl 38 _ _ rfl size38 gh _ LH rfl ((n : Int), (1 : Int)) rfl rfl ?_
            intro wsH LH2 k9
            have LH := LH2
            clear LH2
            have LX := LX.kp k9 hne
            have M := M.kp k9 hHc
            have bel := bel_kp bel k9 hH0 bel.size
            refine hK.out _ _ bel (fun hHeld => ?_)
            clear hK K
            clear k9
            try simp only [Act.put, List.getElem_toArray, List.getElem_cons_succ, List.getElem_cons_zero]
            refine wpAnyH_take (i := 14) (oi := _) (v := ?_) rfl (by kernel_rfl) (by kernel_rfl) (by kernel_rfl) (fun _ _ _ h => h) (Or.inl ⟨by rfl, ?_⟩) hHeld ?_
            rotate_left
            · intro w' hSw
              (go_simp <;> with_reducible rfl)
            try simp only [Act.put, List.getElem_toArray, List.getElem_cons_succ, List.getElem_cons_zero, List.setIfInBounds_toArray, List.set_cons_zero, List.set_cons_succ]
            refine wpAnyH_done (by kernel_rfl) ?_ _
            go_wp2_with fail
            go_meet
            case rel => exact ⟨gx, gh, z, rfl, rfl, rfl, LX, LH, ow.kept M, bel, hX0, hH0, hne⟩
          · go_simp
            have ba := bel_self w3 (.cells #[.int .i64 0, .int .i64 0] 38)
            have LH : Lv (w3.alloc (.cells #[.int .i64 0, .int .i64 0] 38)) w3.heap.size #[.int .i64 0, .int .i64 0] 38 := Lv.new _ _ _
            have hms := M.size
            have M := M.below ba
            have hH0 : W1.heap.size ≤ w3.heap.size := bel.size
            have bel := bel_call bel (Nat.le_refl _) ba
            refine hK.out _ _ bel (fun hHeld => ?_)
            clear hK K
            obtain ⟨gh, hg⟩ : ∃ g, g = w3.heap.size := ⟨_, rfl⟩
            have hHc : gh < wd.heap.size ∨ w3.heap.size ≤ gh := Or.inr (by rw [hg]; exact hms)
            clear hms
            rw [← hg] at LH hH0
            try simp only [← hg]
            clear hg ba
            generalize w3.alloc (.cells #[.int .i64 0, .int .i64 0] 38) = waH at *
            try simp only [Act.put, List.getElem_toArray, List.getElem_cons_succ, List.getElem_cons_zero, List.setIfInBounds_toArray, List.set_cons_zero, List.set_cons_succ]
            refine wpAnyH_ready (rs := [10]) (by kernel_rfl) (by simp) ?_
            refine AllReadyH.cons (o := _) rfl (fun K hK => ?_) (AllReadyH.nil)
            go_simp
            have ba := bel_self waH (.cells #[.slice none 0 0, .slice none 0 0, .slice none 0 0] 30)
            have LX : Lv (waH.alloc (.cells #[.slice none 0 0, .slice none 0 0, .slice none 0 0] 30)) waH.heap.size #[.slice none 0 0, .slice none 0 0, .slice none 0 0] 30 := Lv.new _ _ _
            have LH := LH.below ba
            have hms := M.size
            have M := M.below ba
            have hX0 : W1.heap.size ≤ waH.heap.size := bel.size
            have bel := bel_call bel (Nat.le_refl _) ba
            refine hK.out _ _ bel (fun hHeld => ?_)
            clear hK K
            obtain ⟨gx, hg⟩ : ∃ g, g = waH.heap.size := ⟨_, rfl⟩
            have hXc : gx < wd.heap.size ∨ w3.heap.size ≤ gx := Or.inr (by rw [hg]; exact hms)
            clear hms
            rw [← hg] at LX hX0
            try simp only [← hg]
            clear hg ba
            generalize waH.alloc (.cells #[.slice none 0 0, .slice none 0 0, .slice none 0 0] 30) = waX at *
            try simp only [Act.put, List.getElem_toArray, List.getElem_cons_succ, List.getElem_cons_zero, List.setIfInBounds_toArray, List.set_cons_zero, List.set_cons_succ]
            refine wpAnyH_ready (rs := [12]) (by kernel_rfl) (by simp) ?_
            refine AllReadyH.cons (o := _) rfl (fun K hK => ?_) (AllReadyH.nil)
            have hne : gx ≠ gh := LX.ne LH (by decide)
            refine step_stV (E := eTb) rfl 30 _ _ rfl size30 gx _ LX rfl z rfl rfl ?_
            intro wsX LX2 k9
            have LX := LX2
            clear LX2
            have LH := LH.kp k9 hne.symm
            have M := M.kp k9 hXc
            have bel := bel_kp bel k9 hX0 bel.size
            refine hK.out _ _ bel (fun hHeld => ?_)
            clear hK K
            clear k9
            try simp only [Act.put, List.getElem_toArray, List.getElem_cons_succ, List.getElem_cons_zero]
            refine wpAnyH_ready (rs := [13]) (by kernel_rfl) (by simp) ?_
            refine AllReadyH.cons (o := _) rfl (fun K hK => ?_) (AllReadyH.nil)
            refine step_stV (E := eH) rfl 38 _ _ rfl size38 gh _ LH rfl ((n : Int), (1 : Int)) rfl rfl ?_
            intro wsH LH2 k9
            have LH := LH2
            clear LH2
            have LX := LX.kp k9 hne
            have M := M.kp k9 hHc
            have bel := bel_kp bel k9 hH0 bel.size
            refine hK.out _ _ bel (fun hHeld => ?_)
            clear hK K
            clear k9
            try simp only [Act.put, List.getElem_toArray, List.getElem_cons_succ, List.getElem_cons_zero]
            refine wpAnyH_take (i := 14) (oi := _) (v := ?_) rfl (by kernel_rfl) (by kernel_rfl) (by kernel_rfl) (fun _ _ _ h => h) (Or.inl ⟨by rfl, ?_⟩) hHeld ?_
            rotate_left
            · intro w' hSw
              (go_simp <;> with_reducible rfl)
            try simp only [Act.put, List.getElem_toArray, List.getElem_cons_succ, List.getElem_cons_zero, List.setIfInBounds_toArray, List.set_cons_zero, List.set_cons_succ]
            refine wpAnyH_done (by kernel_rfl) ?_ _
            go_wp2_with fail
            go_meet
            case rel => exact ⟨gx, gh, z, rfl, rfl, rfl, LX, LH, ow.kept M, bel, hX0, hH0, hne⟩
        · go_simp
          have ba := bel_self wd (.cells #[.slice none 0 0, .slice none 0 0, .slice none 0 0] 30)
          have LX : Lv (wd.alloc (.cells #[.slice none 0 0, .slice none 0 0, .slice none 0 0] 30)) wd.heap.size #[.slice none 0 0, .slice none 0 0, .slice none 0 0] 30 := Lv.new _ _ _
          have hX0 : W1.heap.size ≤ wd.heap.size := bel.size
          have bel := bel_call bel (Nat.le_refl _) ba
          refine hK.out _ _ bel (fun hHeld => ?_)
          clear hK K
          obtain ⟨gx, hg⟩ : ∃ g, g = wd.heap.size := ⟨_, rfl⟩
          rw [← hg] at LX hX0
          try simp only [← hg]
          clear hg ba
          generalize wd.alloc (.cells #[.slice none 0 0, .slice none 0 0, .slice none 0 0] 30) = waX at *
          try simp only [Act.put, List.getElem_toArray, List.getElem_cons_succ, List.getElem_cons_zero, List.setIfInBounds_toArray, List.set_cons_zero, List.set_cons_succ]
          refine wpAnyH_ready (rs := [5, 11]) (by kernel_rfl) (by simp) ?_
          refine AllReadyH.cons (o := _) rfl (fun K hK => ?_) (AllReadyH.cons (o := _) rfl (fun K hK => ?_) (AllReadyH.nil))
          · go_simp
            go_at_call 22; refine (make_n y (fT n) n _ (ht.below bel) (fT_wf n) (by omega) kn true HF.out.1 (n : Int) 1 HF.out.2.1 HF.out.2.2).mono ?_
            rintro e w3 ⟨z, rfl, ⟨gl, xs, ow⟩, b3⟩
            have hXc : gx < waX.heap.size ∨ w3.heap.size ≤ gx := Or.inl LX.lt
            have LX := LX.below b3
            have bel := bel_call bel (Nat.le_refl _) b3
            have M : Kept waX.heap.size w3 w3 := Kept.refl _ _
            refine hK.out _ _ bel (fun hHeld => ?_)
            clear hK K
            try simp only [Act.put, List.getElem_toArray, List.getElem_cons_succ, List.getElem_cons_zero, List.setIfInBounds_toArray, List.set_cons_zero, List.set_cons_succ]
            refine wpAnyH_take (i := 6) (oi := _) (v := ?_) rfl (by kernel_rfl) (by kernel_rfl) (by kernel_rfl) (fun _ _ _ h => h) (Or.inl ⟨by rfl, ?_⟩) hHeld ?_
            rotate_left
            · intro w' hSw
              (go_simp <;> with_reducible rfl)
            try simp only [Act.put, List.getElem_toArray, List.getElem_cons_succ, List.getElem_cons_zero, List.setIfInBounds_toArray, List.set_cons_zero, List.set_cons_succ]
            refine wpAnyH_take (i := 7) (oi := _) (v := ?_) rfl (by kernel_rfl) (by kernel_rfl) (by kernel_rfl) (fun _ _ _ h => h) (Or.inl ⟨by rfl, ?_⟩) hHeld ?_
            rotate_left
            · intro w' hSw
              (go_simp <;> with_reducible rfl)
            try simp only [Act.put, List.getElem_toArray, List.getElem_cons_succ, List.getElem_cons_zero, List.setIfInBounds_toArray, List.set_cons_zero, List.set_cons_succ]
            refine wpAnyH_take (i := 8) (oi := _) (v := ?_) rfl (by kernel_rfl) (by kernel_rfl) (by kernel_rfl) (fun _ _ _ h => h) (Or.inl ⟨by rfl, ?_⟩) hHeld ?_
            rotate_left
            · intro w' hSw
              (go_simp <;> with_reducible rfl)
            try simp only [Act.put, List.getElem_toArray, List.getElem_cons_succ, List.getElem_cons_zero, List.setIfInBounds_toArray, List.set_cons_zero, List.set_cons_succ]
            refine wpAnyH_take (i := 9) (oi := _) (v := ?_) rfl (by kernel_rfl) (by kernel_rfl) (by kernel_rfl) (fun _ _ _ h => h) (Or.inl ⟨by rfl, ?_⟩) hHeld ?_
            rotate_left
            · intro w' hSw
              (go_simp <;> with_reducible rfl)
            try simp only [Act.put, List.getElem_toArray, List.getElem_cons_succ, List.getElem_cons_zero, List.setIfInBounds_toArray, List.set_cons_zero, List.set_cons_succ]
            refine wpAnyH_ready (rs := [11]) (by kernel_rfl) (by simp) ?_
            refine AllReadyH.cons (o := _) rfl (fun K hK => ?_) (AllReadyH.nil)
            go_simp
            have ba := bel_self w3 (.cells #[.int .i64 0, .int .i64 0] 38)
            have LH : Lv (w3.alloc (.cells #[.int .i64 0, .int .i64 0] 38)) w3.heap.size #[.int .i64 0, .int .i64 0] 38 := Lv.new _ _ _
            have LX := LX.below ba
            have hms := M.size
            have M := M.below ba
            have hH0 : W1.heap.size ≤ w3.heap.size := bel.size
            have bel := bel_call bel (Nat.le_refl _) ba
            refine hK.out _ _ bel (fun hHeld => ?_)
            clear hK K
            obtain ⟨gh, hg⟩ : ∃ g, g = w3.heap.size := ⟨_, rfl⟩
            have hHc : gh < waX.heap.size ∨ w3.heap.size ≤ gh := Or.inr (by rw [hg]; exact hms)
            clear hms
            rw [← hg] at LH hH0
            try simp only [← hg]
            clear hg ba
            generalize w3.alloc (.cells #[.int .i64 0, .int .i64 0] 38) = waH at *
            try simp only [Act.put, List.getElem_toArray, List.getElem_cons_succ, List.getElem_cons_zero, List.setIfInBounds_toArray, List.set_cons_zero, List.set_cons_succ]
            refine wpAnyH_ready (rs := [12]) (by kernel_rfl) (by simp) ?_
            refine AllReadyH.cons (o := _) rfl (fun K hK => ?_) (AllReadyH.nil)
            have hne : gx ≠ gh := LX.ne LH (by decide)
            refine step_stV (E := eTb) rfl 30 _ _ rfl size30 gx _ LX rfl z rfl rfl ?_
            intro wsX LX2 k9
            have LX := LX2
            clear LX2
            have LH := LH.kp k9 hne.symm
            have M := M.kp k9 hXc
            have bel := bel_kp bel k9 hX0 bel.size
            refine hK.out _ _ bel (fun hHeld => ?_)
            clear hK K
            clear k9
            try simp only [Act.put, List.getElem_toArray, List.getElem_cons_succ, List.getElem_cons_zero]
            refine wpAnyH_ready (rs := [13]) (by kernel_rfl) (by simp) ?_
            refine AllReadyH.cons (o := _) rfl (fun K hK => ?_) (AllReadyH.nil)
            refine step_stV (E := eH) rfl 38 _ _ rfl size38 gh _ LH rfl ((n : Int), (1 : Int)) rfl rfl ?_
            intro wsH LH2 k9
            have LH := LH2
            clear LH2
            have LX := LX.kp k9 hne
            have M := M.kp k9 hHc
            have bel := bel_kp bel k9 hH0 bel.size
            refine hK.out _ _ bel (fun hHeld => ?_)
            clear hK K
            clear k9
            try simp only [Act.put, List.getElem_toArray, List.getElem_cons_succ, List.getElem_cons_zero]
            refine wpAnyH_take (i := 14) (oi := _) (v := ?_) rfl (by kernel_rfl) (by kernel_rfl) (by kernel_rfl) (fun _ _ _ h => h) (Or.inl ⟨by rfl, ?_⟩) hHeld ?_
            rotate_left
            · intro w' hSw
              (go_simp <;> with_reducible rfl)
            try simp only [Act.put, List.getElem_toArray, List.getElem_cons_succ, List.getElem_cons_zero, List.setIfInBounds_toArray, List.set_cons_zero, List.set_cons_succ]
            refine wpAnyH_done (by kernel_rfl) ?_ _
            go_wp2_with fail
            go_meet
            case rel => exact ⟨gx, gh, z, rfl, rfl, rfl, LX, LH, ow.kept M, bel, hX0, hH0, hne⟩
          · go_simp
            have ba := bel_self waX (.cells #[.int .i64 0, .int .i64 0] 38)
            have LH : Lv (waX.alloc (.cells #[.int .i64 0, .int .i64 0] 38)) waX.heap.size #[.int .i64 0, .int .i64 0] 38 := Lv.new _ _ _
            have LX := LX.below ba
            have hH0 : W1.heap.size ≤ waX.heap.size := bel.size
            have bel := bel_call bel (Nat.le_refl _) ba
            refine hK.out _ _ bel (fun hHeld => ?_)
            clear hK K
            obtain ⟨gh, hg⟩ : ∃ g, g = waX.heap.size := ⟨_, rfl⟩
            rw [← hg] at LH hH0
            try simp only [← hg]
            clear hg ba
            generalize waX.alloc (.cells #[.int .i64 0, .int .i64 0] 38) = waH at *
            try simp only [Act.put, List.getElem_toArray, List.getElem_cons_succ, List.getElem_cons_zero, List.setIfInBounds_toArray, List.set_cons_zero, List.set_cons_succ]
            refine wpAnyH_ready (rs := [5]) (by kernel_rfl) (by simp) ?_
            refine AllReadyH.cons (o := _) rfl (fun K hK => ?_) (AllReadyH.nil)
            go_simp
            go_at_call 22; refine (make_n y (fT n) n _ (ht.below bel) (fT_wf n) (by omega) kn true HF.out.1 (n : Int) 1 HF.out.2.1 HF.out.2.2).mono ?_
            rintro e w3 ⟨z, rfl, ⟨gl, xs, ow⟩, b3⟩
            have hXc : gx < waH.heap.size ∨ w3.heap.size ≤ gx := Or.inl LX.lt
            have LX := LX.below b3
            have hHc : gh < waH.heap.size ∨ w3.heap.size ≤ gh := Or.inl LH.lt
            have LH := LH.below b3
            have bel := bel_call bel (Nat.le_refl _) b3
            have M : Kept waH.heap.size w3 w3 := Kept.refl _ _
            refine hK.out _ _ bel (fun hHeld => ?_)
            clear hK K
            try simp only [Act.put, List.getElem_toArray, List.getElem_cons_succ, List.getElem_cons_zero, List.setIfInBounds_toArray, List.set_cons_zero, List.set_cons_succ]
            refine wpAnyH_take (i := 6) (oi := _) (v := ?_) rfl (by kernel_rfl) (by kernel_rfl) (by kernel_rfl) (fun _ _ _ h => h) (Or.inl ⟨by rfl, ?_⟩) hHeld ?_
            rotate_left
            · intro w' hSw
              (go_simp <;> with_reducible rfl)
            try simp only [Act.put, List.getElem_toArray, List.getElem_cons_succ, List.getElem_cons_zero, List.setIfInBounds_toArray, List.set_cons_zero, List.set_cons_succ]
            refine wpAnyH_take (i := 7) (oi := _) (v := ?_) rfl (by kernel_rfl) (by kernel_rfl) (by kernel_rfl) (fun _ _ _ h => h) (Or.inl ⟨by rfl, ?_⟩) hHeld ?_
            rotate_left
            · intro w' hSw
              (go_simp <;> with_reducible rfl)
            try simp only [Act.put, List.getElem_toArray, List.getElem_cons_succ, List.getElem_cons_zero, List.setIfInBounds_toArray, List.set_cons_zero, List.set_cons_succ]
            refine wpAnyH_take (i := 8) (oi := _) (v := ?_) rfl (by kernel_rfl) (by kernel_rfl) (by kernel_rfl) (fun _ _ _ h => h) (Or.inl ⟨by rfl, ?_⟩) hHeld ?_
            rotate_left
            · intro w' hSw
              (go_simp <;> with_reducible rfl)
            try simp only [Act.put, List.getElem_toArray, List.getElem_cons_succ, List.getElem_cons_zero, List.setIfInBounds_toArray, List.set_cons_zero, List.set_cons_succ]
            refine wpAnyH_take (i := 9) (oi := _) (v := ?_) rfl (by kernel_rfl) (by kernel_rfl) (by kernel_rfl) (fun _ _ _ h => h) (Or.inl ⟨by rfl, ?_⟩) hHeld ?_
            rotate_left
            · intro w' hSw
              (go_simp <;> with_reducible rfl)
            try simp only [Act.put, List.getElem_toArray, List.getElem_cons_succ, List.getElem_cons_zero, List.setIfInBounds_toArray, List.set_cons_zero, List.set_cons_succ]
            refine wpAnyH_ready (rs := [12]) (by kernel_rfl) (by simp) ?_
            refine AllReadyH.cons (o := _) rfl (fun K hK => ?_) (AllReadyH.nil)
            have hne : gx ≠ gh := LX.ne LH (by decide)
            refine step_stV (E := eTb) rfl 30 _ _ rfl size30 gx _ LX rfl z rfl rfl ?_
            intro wsX LX2 k9
            have LX := LX2
            clear LX2
            have LH := LH.kp k9 hne.symm
            have M := M.kp k9 hXc
            have bel := bel_kp bel k9 hX0 bel.size
            refine hK.out _ _ bel (fun hHeld => ?_)
            clear hK K
            clear k9
            try simp only [Act.put, List.getElem_toArray, List.getElem_cons_succ, List.getElem_cons_zero]
            refine wpAnyH_ready (rs := [13]) (by kernel_rfl) (by simp) ?_
            refine AllReadyH.cons (o := _) rfl (fun K hK => ?_) (AllReadyH.nil)
            refine step_stV (E := eH) rfl 38 _ _ rfl size38 gh _ LH rfl ((n : Int), (1 : Int)) rfl rfl ?_
            intro wsH LH2 k9
            have LH := LH2
            clear LH2
            have LX := LX.kp k9 hne
            have M := M.kp k9 hHc
            have bel := bel_kp bel k9 hH0 bel.size
            refine hK.out _ _ bel (fun hHeld => ?_)
            clear hK K
            clear k9
            try simp only [Act.put, List.getElem_toArray, List.getElem_cons_succ, List.getElem_cons_zero]
            refine wpAnyH_take (i := 14) (oi := _) (v := ?_) rfl (by kernel_rfl) (by kernel_rfl) (by kernel_rfl) (fun _ _ _ h => h) (Or.inl ⟨by rfl, ?_⟩) hHeld ?_
            rotate_left
            · intro w' hSw
              (go_simp <;> with_reducible rfl)
            try simp only [Act.put, List.getElem_toArray, List.getElem_cons_succ, List.getElem_cons_zero, List.setIfInBounds_toArray, List.set_cons_zero, List.set_cons_succ]
            refine wpAnyH_done (by kernel_rfl) ?_ _
            go_wp2_with fail
            go_meet
            case rel => exact ⟨gx, gh, z, rfl, rfl, rfl, LX, LH, ow.kept M, bel, hX0, hH0, hne⟩
        · go_simp
          have ba := bel_self wd (.cells #[.int .i64 0, .int .i64 0] 38)
          have LH : Lv (wd.alloc (.cells #[.int .i64 0, .int .i64 0] 38)) wd.heap.size #[.int .i64 0, .int .i64 0] 38 := Lv.new _ _ _
          have hH0 : W1.heap.size ≤ wd.heap.size := bel.size
          have bel := bel_call bel (Nat.le_refl _) ba
          refine hK.out _ _ bel (fun hHeld => ?_)
          clear hK K
          obtain ⟨gh, hg⟩ : ∃ g, g = wd.heap.size := ⟨_, rfl⟩
          rw [← hg] at LH hH0
          try simp only [← hg]
          clear hg ba
          generalize wd.alloc (.cells #[.int .i64 0, .int .i64 0] 38) = waH at *
          try simp only [Act.put, List.getElem_toArray, List.getElem_cons_succ, List.getElem_cons_zero, List.setIfInBounds_toArray, List.set_cons_zero, List.set_cons_succ]
          refine wpAnyH_ready (rs := [5, 10]) (by kernel_rfl) (by simp) ?_
          refine AllReadyH.cons (o := _) rfl (fun K hK => ?_) (AllReadyH.cons (o := _) rfl (fun K hK => ?_) (AllReadyH.nil))
          · go_simp
            go_at_call 22; refine (make_n y (fT n) n _ (ht.below bel) (fT_wf n) (by omega) kn true HF.out.1 (n : Int) 1 HF.out.2.1 HF.out.2.2).mono ?_
            rintro e w3 ⟨z, rfl, ⟨gl, xs, ow⟩, b3⟩
            have hHc : gh < waH.heap.size ∨ w3.heap.size ≤ gh := Or.inl LH.lt
            have LH := LH.below b3
            have bel := bel_call bel (Nat.le_refl _) b3
            have M : Kept waH.heap.size w3 w3 := Kept.refl _ _
            refine hK.out _ _ bel (fun hHeld => ?_)
            clear hK K
            try simp only [Act.put, List.getElem_toArray, List.getElem_cons_succ, List.getElem_cons_zero, List.setIfInBounds_toArray, List.set_cons_zero, List.set_cons_succ]
            refine wpAnyH_take (i := 6) (oi := _) (v := ?_) rfl (by kernel_rfl) (by kernel_rfl) (by kernel_rfl) (fun _ _ _ h => h) (Or.inl ⟨by rfl, ?_⟩) hHeld ?_
            rotate_left
            · intro w' hSw
              (go_simp <;> with_reducible rfl)
            try simp only [Act.put, List.getElem_toArray, List.getElem_cons_succ, List.getElem_cons_zero, List.setIfInBounds_toArray, List.set_cons_zero, List.set_cons_succ]
            refine wpAnyH_take (i := 7) (oi := _) (v := ?_) rfl (by kernel_rfl) (by kernel_rfl) (by kernel_rfl) (fun _ _ _ h => h) (Or.inl ⟨by rfl, ?_⟩) hHeld ?_
            rotate_left
            · intro w' hSw
              (go_simp <;> with_reducible rfl)
            try simp only [Act.put, List.getElem_toArray, List.getElem_cons_succ, List.getElem_cons_zero, List.setIfInBounds_toArray, List.set_cons_zero, List.set_cons_succ]
            refine wpAnyH_take (i := 8) (oi := _) (v := ?_) rfl (by kernel_rfl) (by kernel_rfl) (by kernel_rfl) (fun _ _ _ h => h) (Or.inl ⟨by rfl, ?_⟩) hHeld ?_
            rotate_left
            · intro w' hSw
              (go_simp <;> with_reducible rfl)
            try simp only [Act.put, List.getElem_toArray, List.getElem_cons_succ, List.getElem_cons_zero, List.setIfInBounds_toArray, List.set_cons_zero, List.set_cons_succ]
            refine wpAnyH_take (i := 9) (oi := _) (v := ?_) rfl (by kernel_rfl) (by kernel_rfl) (by kernel_rfl) (fun _ _ _ h => h) (Or.inl ⟨by rfl, ?_⟩) hHeld ?_
            rotate_left
            · intro w' hSw
              (go_simp <;> with_reducible rfl)
            try simp only [Act.put, List.getElem_toArray, List.getElem_cons_succ, List.getElem_cons_zero, List.setIfInBounds_toArray, List.set_cons_zero, List.set_cons_succ]
            refine wpAnyH_ready (rs := [10]) (by kernel_rfl) (by simp) ?_
            refine AllReadyH.cons (o := _) rfl (fun K hK => ?_) (AllReadyH.nil)
            go_simp
            have ba := bel_self w3 (.cells #[.slice none 0 0, .slice none 0 0, .slice none 0 0] 30)
            have LX : Lv (w3.alloc (.cells #[.slice none 0 0, .slice none 0 0, .slice none 0 0] 30)) w3.heap.size #[.slice none 0 0, .slice none 0 0, .slice none 0 0] 30 := Lv.new _ _ _
            have LH := LH.below ba
            have hms := M.size
            have M := M.below ba
            have hX0 : W1.heap.size ≤ w3.heap.size := bel.size
            have bel := bel_call bel (Nat.le_refl _) ba
            refine hK.out _ _ bel (fun hHeld => ?_)
            clear hK K
            obtain ⟨gx, hg⟩ : ∃ g, g = w3.heap.size := ⟨_, rfl⟩
            have hXc : gx < waH.heap.size ∨ w3.heap.size ≤ gx := Or.inr (by rw [hg]; exact hms)
            clear hms
            rw [← hg] at LX hX0
            try simp only [← hg]
            clear hg ba
            generalize w3.alloc (.cells #[.slice none 0 0, .slice none 0 0, .slice none 0 0] 30) = waX at *
            try simp only [Act.put, List.getElem_toArray, List.getElem_cons_succ, List.getElem_cons_zero, List.setIfInBounds_toArray, List.set_cons_zero, List.set_cons_succ]
            refine wpAnyH_ready (rs := [12]) (by kernel_rfl) (by simp) ?_
            refine AllReadyH.cons (o := _) rfl (fun K hK => ?_) (AllReadyH.nil)
            have hne : gx ≠ gh := LX.ne LH (by decide)
            refine step_stV (E := eTb) rfl 30 _ _ rfl size30 gx _ LX rfl z rfl rfl ?_
            intro wsX LX2 k9
            have LX := LX2
            clear LX2
            have LH := LH.kp k9 hne.symm
            have M := M.kp k9 hXc
            have bel := bel_kp bel k9 hX0 bel.size
            refine hK.out _ _ bel (fun hHeld => ?_)
            clear hK K
            clear k9
            try simp only [Act.put, List.getElem_toArray, List.getElem_cons_succ, List.getElem_cons_zero]
            refine wpAnyH_ready (rs := [13]) (by kernel_rfl) (by simp) ?_
            refine AllReadyH.cons (o := _) rfl (fun K hK => ?_) (AllReadyH.nil)
            refine step_stV (E := eH) rfl 38 _ _ rfl size38 gh _ LH rfl ((n : Int), (1 : Int)) rfl rfl ?_
            intro wsH LH2 k9
            have LH := LH2
            clear LH2
            have LX := LX.kp k9 hne
            have M := M.kp k9 hHc
            have bel := bel_kp bel k9 hH0 bel.size
            refine hK.out _ _ bel (fun hHeld => ?_)
            clear hK K
            clear k9
            try simp only [Act.put, List.getElem_toArray, List.getElem_cons_succ, List.getElem_cons_zero]
            refine wpAnyH_take (i := 14) (oi := _) (v := ?_) rfl (by kernel_rfl) (by kernel_rfl) (by kernel_rfl) (fun _ _ _ h => h) (Or.inl ⟨by rfl, ?_⟩) hHeld ?_
            rotate_left
            · intro w' hSw
              (go_simp <;> with_reducible rfl)
            try simp only [Act.put, List.getElem_toArray, List.getElem_cons_succ, List.getElem_cons_zero, List.setIfInBounds_toArray, List.set_cons_zero, List.set_cons_succ]
            refine wpAnyH_done (by kernel_rfl) ?_ _
            go_wp2_with fail
            go_meet
            case rel => exact ⟨gx, gh, z, rfl, rfl, rfl, LX, LH, ow.kept M, bel, hX0, hH0, hne⟩
          · go_simp
            have ba := bel_self waH (.cells #[.slice none 0 0, .slice none 0 0, .slice none 0 0] 30)
            have LX : Lv (waH.alloc (.cells #[.slice none 0 0, .slice none 0 0, .slice none 0 0] 30)) waH.heap.size #[.slice none 0 0, .slice none 0 0, .slice none 0 0] 30 := Lv.new _ _ _
            have LH := LH.below ba
            have hX0 : W1.heap.size ≤ waH.heap.size := bel.size
            have bel := bel_call bel (Nat.le_refl _) ba
            refine hK.out _ _ bel (fun hHeld => ?_)
            clear hK K
            obtain ⟨gx, hg⟩ : ∃ g, g = waH.heap.size := ⟨_, rfl⟩
            rw [← hg] at LX hX0
            try simp only [← hg]
            clear hg ba
            generalize waH.alloc (.cells #[.slice none 0 0, .slice none 0 0, .slice none 0 0] 30) = waX at *
            try simp only [Act.put, List.getElem_toArray, List.getElem_cons_succ, List.getElem_cons_zero, List.setIfInBounds_toArray, List.set_cons_zero, List.set_cons_succ]
            refine wpAnyH_ready (rs := [5]) (by kernel_rfl) (by simp) ?_
            refine AllReadyH.cons (o := _) rfl (fun K hK => ?_) (AllReadyH.nil)
            go_simp
            go_at_call 22; refine (make_n y (fT n) n _ (ht.below bel) (fT_wf n) (by omega) kn true HF.out.1 (n : Int) 1 HF.out.2.1 HF.out.2.2).mono ?_
            rintro e w3 ⟨z, rfl, ⟨gl, xs, ow⟩, b3⟩
            have hXc : gx < waX.heap.size ∨ w3.heap.size ≤ gx := Or.inl LX.lt
            have LX := LX.below b3
            have hHc : gh < waX.heap.size ∨ w3.heap.size ≤ gh := Or.inl LH.lt
            have LH := LH.below b3
            have bel := bel_call bel (Nat.le_refl _) b3
            have M : Kept waX.heap.size w3 w3 := Kept.refl _ _
            refine hK.out _ _ bel (fun hHeld => ?_)
            clear hK K
            try simp only [Act.put, List.getElem_toArray, List.getElem_cons_succ, List.getElem_cons_zero, List.setIfInBounds_toArray, List.set_cons_zero, List.set_cons_succ]
            refine wpAnyH_take (i := 6) (oi := _) (v := ?_) rfl (by kernel_rfl) (by kernel_rfl) (by kernel_rfl) (fun _ _ _ h => h) (Or.inl ⟨by rfl, ?_⟩) hHeld ?_
            rotate_left
            · intro w' hSw
              (go_simp <;> with_reducible rfl)
            try simp only [Act.put, List.getElem_toArray, List.getElem_cons_succ, List.getElem_cons_zero, List.setIfInBounds_toArray, List.set_cons_zero, List.set_cons_succ]
            refine wpAnyH_take (i := 7) (oi := _) (v := ?_) rfl (by kernel_rfl) (by kernel_rfl) (by kernel_rfl) (fun _ _ _ h => h) (Or.inl ⟨by rfl, ?_⟩) hHeld ?_
            rotate_left
            · intro w' hSw
              (go_simp <;> with_reducible rfl)
            try simp only [Act.put, List.getElem_toArray, List.getElem_cons_succ, List.getElem_cons_zero, List.setIfInBounds_toArray, List.set_cons_zero, List.set_cons_succ]
            refine wpAnyH_take (i := 8) (oi := _) (v := ?_) rfl (by kernel_rfl) (by kernel_rfl) (by kernel_rfl) (fun _ _ _ h => h) (Or.inl ⟨by rfl, ?_⟩) hHeld ?_
            rotate_left
            · intro w' hSw
              (go_simp <;> with_reducible rfl)
            try simp only [Act.put, List.getElem_toArray, List.getElem_cons_succ, List.getElem_cons_zero, List.setIfInBounds_toArray, List.set_cons_zero, List.set_cons_succ]
            refine wpAnyH_take (i := 9) (oi := _) (v := ?_) rfl (by kernel_rfl) (by kernel_rfl) (by kernel_rfl) (fun _ _ _ h => h) (Or.inl ⟨by rfl, ?_⟩) hHeld ?_
            rotate_left
            · intro w' hSw
              (go_simp <;> with_reducible rfl)
            try simp only [Act.put, List.getElem_toArray, List.getElem_cons_succ, List.getElem_cons_zero, List.setIfInBounds_toArray, List.set_cons_zero, List.set_cons_succ]
            refine wpAnyH_ready (rs := [12]) (by kernel_rfl) (by simp) ?_
            refine AllReadyH.cons (o := _) rfl (fun K hK => ?_) (AllReadyH.nil)
            have hne : gx ≠ gh := LX.ne LH (by decide)
            refine step_stV (E := eTb) rfl 30 _ _ rfl size30 gx _ LX rfl z rfl rfl ?_
            intro wsX LX2 k9
            have LX := LX2
            clear LX2
            have LH := LH.kp k9 hne.symm
            have M := M.kp k9 hXc
            have bel := bel_kp bel k9 hX0 bel.size
            refine hK.out _ _ bel (fun hHeld => ?_)
            clear hK K
            clear k9
            try simp only [Act.put, List.getElem_toArray, List.getElem_cons_succ, List.getElem_cons_zero]
            refine wpAnyH_ready (rs := [13]) (by kernel_rfl) (by simp) ?_
            refine AllReadyH.cons (o := _) rfl (fun K hK => ?_) (AllReadyH.nil)
            refine step_stV (E := eH) rfl 38 _ _ rfl size38 gh _ LH rfl ((n : Int), (1 : Int)) rfl rfl ?_
            intro wsH LH2 k9
            have LH := LH2
            clear LH2
            have LX := LX.kp k9 hne
            have M := M.kp k9 hHc
            have bel := bel_kp bel k9 hH0 bel.size
            refine hK.out _ _ bel (fun hHeld => ?_)
            clear hK K
            clear k9
            try simp only [Act.put, List.getElem_toArray, List.getElem_cons_succ, List.getElem_cons_zero]
            refine wpAnyH_take (i := 14) (oi := _) (v := ?_) rfl (by kernel_rfl) (by kernel_rfl) (by kernel_rfl) (fun _ _ _ h => h) (Or.inl ⟨by rfl, ?_⟩) hHeld ?_
            rotate_left
            · intro w' hSw
              (go_simp <;> with_reducible rfl)
            try simp only [Act.put, List.getElem_toArray, List.getElem_cons_succ, List.getElem_cons_zero, List.setIfInBounds_toArray, List.set_cons_zero, List.set_cons_succ]
            refine wpAnyH_done (by kernel_rfl) ?_ _
            go_wp2_with fail
            go_meet
            case rel => exact ⟨gx, gh, z, rfl, rfl, rfl, LX, LH, ow.kept M, bel, hX0, hH0, hne⟩
      case rest =>
        obtain ⟨gx, gh, z, rfl, rfl, rfl, LX, LH, tz, bz, hx0, hh0, hne⟩ := hcut
        have hkbe := HE.out
        subst hkbe
        rw [← HT.out] at tz
        have hVz := hV.below bz
        have hkz2 := hkr.below bz
        have hkz : wc.cell? ⟨g + 1, n, none⟩ = some (.int .i64 kn) := (bz.cell (p := ⟨g + 1, n, none⟩) hkb).trans hkc
        obtain ⟨b, o, Z, e3, hb, hZ, hZo⟩ := tz.thing n hlt
        have hZk : Z.k = kn := by rw [hZo.k]; exact HQ.out.1
        have hZc : decide (Z.c = 8) = decide (kn = 1) := by rw [hZo.c]; exact HQ.out.2
        have q1 : (kn == kn) = true := beq_self_eq_true kn
        have q2 : decide (kn = kn) = true := decide_eq_true rfl
        obtain ⟨f0, f1, f2, f3, f4, f5, f6, f7, f8, f9⟩ := hZ
        rw [hZk] at f0
        obtain ⟨zgp, zgc, zip, zic, ztp, ztc⟩ := z
        dsimp only at e3
        subst e3
        obtain ⟨l0, l1, l2⟩ := Vw.at (show Vw wc gx (⟨zgp, zgc, zip, zic, some ⟨b, o, none⟩, ztc⟩ : Tw) 30 from LX)
        have m0 : wc.cell? ⟨gh, 0, none⟩ = some (.int .i64 (n : Int)) := LH.c 0 rfl
        have m1 : wc.cell? ⟨gh, 1, none⟩ = some (.int .i64 1) := LH.c 1 rfl
        clear hZk hZo f1 f2 f4 f5 f6 f7 f8 f9 hV hkc hkr ht
        have HZC : Hid (decide (Z.c = 8) = decide (kn = 1)) := hZc
        clear hZc
        have HZ1 : Hid (kn = kn) := rfl
        by_cases hk1 : kn = 1
        · have x1 : (kn == 1) = true := by simpa using hk1
          have x2 : decide (kn = 1) = true := by simpa using hk1
          have hz8 : Z.c = 8 := by have h := HZC.out; rw [x2] at h; simpa using h
          have x3 : (Z.c == 8) = true := by simpa using hz8
          have x4 : decide (Z.c = 8) = true := by simpa using hz8
          clear hz8 hk1
          go_wp2_with (first | (go_quiet (fail)) | (refine wpList_stV (E := eTb) rfl 30 (.tmp 1) (.tmp 105) rfl size30 g _ hVz rfl (⟨zgp, zgc, zip, zic, some ⟨b, o, none⟩, ztc⟩ : Tw) rfl rfl ?_; intro w9 L9 k9))
          have bd := below_drewN (Below.refl wc.heap.size wc) nq
          have t9 := (tz.below bd).kpS (hVz.below bd) k9
          have B9 := bel_kp (bel_call (bel_call hbw (Nat.le_refl _) bz) (Nat.le_refl _) bd) k9 hgw (bel_call (bel_call hbw (Nat.le_refl _) bz) (Nat.le_refl _) bd).size
          have r9 := rd_kpF (hkz2.below bd) k9 (fun b o e => by cases e; omega)
          have l9 := Nat.le_trans hle (Nat.le_trans bz.size (Nat.le_trans bd.size k9.size))
          go_roundw
          case rel => exact ⟨n + 1, ⟨zgp, zgc, zip, zic, some ⟨b, o, none⟩, ztc⟩, by omega, by go_num, L9, t9, r9, B9, l9⟩
          case measure => simp [intOf]; omega
        · have x1 : (kn == 1) = false := by simpa using hk1
          have x2 : decide (kn = 1) = false := by simpa using hk1
          have hz8 : ¬ Z.c = 8 := by have h := HZC.out; rw [x2] at h; simpa using h
          have x3 : (Z.c == 8) = false := by simpa using hz8
          have x4 : decide (Z.c = 8) = false := by simpa using hz8
          clear hz8 hk1
          go_wp2_with (first | (go_quiet (fail)) | (refine wpList_stV (E := eTb) rfl 30 (.tmp 1) (.tmp 105) rfl size30 g _ hVz rfl (⟨zgp, zgc, zip, zic, some ⟨b, o, none⟩, ztc⟩ : Tw) rfl rfl ?_; intro w9 L9 k9))
          have bd := below_drewN (Below.refl wc.heap.size wc) nq
          have t9 := (tz.below bd).kpS (hVz.below bd) k9
          have B9 := bel_kp (bel_call (bel_call hbw (Nat.le_refl _) bz) (Nat.le_refl _) bd) k9 hgw (bel_call (bel_call hbw (Nat.le_refl _) bz) (Nat.le_refl _) bd).size
          have r9 := rd_kpF (hkz2.below bd) k9 (fun b o e => by cases e; omega)
          have l9 := Nat.le_trans hle (Nat.le_trans bz.size (Nat.le_trans bd.size k9.size))
          go_roundw
          case rel => exact ⟨n + 1, ⟨zgp, zgc, zip, zic, some ⟨b, o, none⟩, ztc⟩, by omega, by go_num, L9, t9, r9, B9, l9⟩
          case measure => simp [intOf]; omega
    · have hn12 : n = 12 := by omega
      subst hn12
      obtain ⟨T, hT⟩ : ∃ T, fT 12 = T := ⟨_, rfl⟩
      obtain ⟨U, hU⟩ : ∃ U, drR T 4 1 = U := ⟨_, rfl⟩
      obtain ⟨V, hVv⟩ : ∃ V, mkR U 2 = V := ⟨_, rfl⟩
      have wfT : Wf 12 T := by rw [← hT]; exact fT_wf 12
      have wfU : Wf 12 U := by rw [← hU]; exact drR_wf wfT 4 1
      have wfV : Wf 13 V := by rw [← hVv]; exact mkR_wf wfU 2
      have h1 := f_end
      have h2 := f_u
      have h3 := f_v
      have h4 := f_mk
      have h5 := f_fn.2
      rw [hT] at h1 h2 h3 h4 h5 ht
      rw [hU] at h2 h3 h4
      rw [hVv] at h3
      obtain ⟨pf, hpf⟩ : ∃ pf, fnA U 4 1 = pf := ⟨_, rfl⟩
      have HP : Hid (fnA U 4 1 = pf) := hpf
      have HE : Hid (mkOk T 1 = false ∧ drOk T 0 1 = false ∧ drOk T 4 1 = true ∧ plc 1 T.T 12 = [0, 3, 6, 9]) := h1
      have HU : Hid (mkOk U 1 = false ∧ mkOk U 4 = false ∧ mkOk U 0 = false ∧ mkOk U 2 = true ∧ mkA U 2 = 4 ∧ mkG U 2 = 2 ∧ isThere U.T 4 = false ∧ isThere U.T 12 = false ∧ isThere U.T (-1) = false ∧ Slo.hasM U.G U.I 4 1 = false) := h2
      have HV : Hid (Slo.hasM V.G V.I 4 2 = true ∧ fnA V 4 2 = 4) := h3
      have HM : Hid (mkA T 1 = 0 ∧ mkG T 1 = 0 ∧ mkA U 1 = 0 ∧ mkG U 1 = 0 ∧ mkA U 4 = 0 ∧ mkG U 4 = 0 ∧ mkA U 0 = 0 ∧ mkG U 0 = 0) := h4
      have HW : Hid ((drW T 0 1).length = 0 ∧ (drW T 4 1).length = 0) := h5
      have HT : Hid (fT 12 = T ∧ drR T 4 1 = U ∧ mkR U 2 = V) := ⟨hT, hU, hVv⟩
      clear hT hU hVv h1 h2 h3 h4 h5 hpf hkr hlt
      obtain ⟨e0, e1, e2⟩ := hV.at
      go_upto_region 25 with (first
        | (go_at_call 28; refine (semas_any y T _ (ht.below BT23) 4 (by rw [HE.out.2.2.2]; rfl)).mono ?_; rintro e w24 ⟨p24, q24, rfl, o24, b24⟩; have c24 := b24; have BT24 := bel_call BT23 (Nat.le_refl _) c24; have BU24 := bel_call BU23 (Nat.le_refl _) c24; have BV24 := bel_call BV23 (Nat.le_refl _) c24; clear e0 e1 e2; have h0 := (VH.below BV24).c 0 rfl; have h1 := (VH.below BV24).c 1 rfl)
        | (go_at_call 17; refine (turnt_any z14 U _ (tU.below BU22) (-1) false HU.out.2.2.2.2.2.2.2.2.1).mono ?_; rintro e w23 ⟨z23, rfl, _, b23⟩; have c23 := bel_call b23 (Nat.le_refl _) (bel_self w23 (.cells #[.slice z23.gp 12 z23.gc, .slice z23.ip 12 z23.ic, .slice z23.tp 12 z23.tc] 30)); have BT23 := bel_call BT22 (Nat.le_refl _) c23; have BU23 := bel_call BU22 (Nat.le_refl _) c23; have BV23 := bel_call BV22 (Nat.le_refl _) c23; clear e0 e1 e2; obtain ⟨e0, e1, e2⟩ := (hV.below BT23).at)
        | (go_at_call 17; refine (turnt_any z14 U _ (tU.below BU21) 12 false HU.out.2.2.2.2.2.2.2.1).mono ?_; rintro e w22 ⟨z22, rfl, _, b22⟩; have c22 := bel_call b22 (Nat.le_refl _) (bel_self w22 (.cells #[.slice z22.gp 12 z22.gc, .slice z22.ip 12 z22.ic, .slice z22.tp 12 z22.tc] 30)); have BT22 := bel_call BT21 (Nat.le_refl _) c22; have BU22 := bel_call BU21 (Nat.le_refl _) c22; have BV22 := bel_call BV21 (Nat.le_refl _) c22; clear e0 e1 e2; obtain ⟨e0, e1, e2⟩ := (VU.below BU22).at)
        | (go_at_call 17; refine (turnt_any z14 U _ (tU.below BU20) 4 false HU.out.2.2.2.2.2.2.1).mono ?_; rintro e w21 ⟨z21, rfl, _, b21⟩; have c21 := bel_call b21 (Nat.le_refl _) (bel_self w21 (.cells #[.slice z21.gp 12 z21.gc, .slice z21.ip 12 z21.ic, .slice z21.tp 12 z21.tc] 30)); have BT21 := bel_call BT20 (Nat.le_refl _) c21; have BU21 := bel_call BU20 (Nat.le_refl _) c21; have BV21 := bel_call BV20 (Nat.le_refl _) c21; clear e0 e1 e2; obtain ⟨e0, e1, e2⟩ := (VU.below BU21).at)
        | (go_at_call 24; refine (find_any z18 V 13 _ (tV.below BV19) wfV (by decide) 4 2 i4 i2 4 HV.out.2 true HV.out.1).mono ?_; rintro e w20 ⟨rfl, b20⟩; have c20 := b20; have BT20 := bel_call BT19 (Nat.le_refl _) c20; have BU20 := bel_call BU19 (Nat.le_refl _) c20; have BV20 := bel_call BV19 (Nat.le_refl _) c20; clear e0 e1 e2; obtain ⟨e0, e1, e2⟩ := (VU.below BU20).at)
        | (go_at_call 24; refine (find_any z14 U 12 _ (tU.below BU18) wfU (by decide) 4 1 i4 i1 pf HP.out false HU.out.2.2.2.2.2.2.2.2.2).mono ?_; rintro e w19 ⟨rfl, b19⟩; have c19 := b19; have BT19 := bel_call BT18 (Nat.le_refl _) c19; have BU19 := bel_call BU18 (Nat.le_refl _) c19; have BV19 := bel_call BV18 (Nat.le_refl _) c19; clear e0 e1 e2; obtain ⟨e0, e1, e2⟩ := (VV.below BV19).at)
        | (go_at_call 22; refine (make_any z14 U 12 _ (tU.below BU17) wfU (by decide) 2 true HU.out.2.2.2.1 4 2 HU.out.2.2.2.2.1 HU.out.2.2.2.2.2.1).mono ?_; rintro e w18 ⟨z18, rfl, t18, b18⟩; have c18 := bel_call b18 (Nat.le_refl _) ((bel_self w18 (.cells #[.slice z18.gp 12 z18.gc, .slice z18.ip 12 z18.ic, .slice z18.tp 12 z18.tc] 30)).alloc (by simp) (.cells #[.int .i64 4, .int .i64 2] 38)); have BT18 := bel_call BT17 (Nat.le_refl _) c18; have BU18 := bel_call BU17 (Nat.le_refl _) c18; have BV18 := Below.refl ((w18.alloc (.cells #[.slice z18.gp 12 z18.gc, .slice z18.ip 12 z18.ic, .slice z18.tp 12 z18.tc] 30)).alloc (.cells #[.int .i64 4, .int .i64 2] 38)).heap.size ((w18.alloc (.cells #[.slice z18.gp 12 z18.gc, .slice z18.ip 12 z18.ic, .slice z18.tp 12 z18.tc] 30)).alloc (.cells #[.int .i64 4, .int .i64 2] 38)); have VV := (Vw.new w18 z18 30).below (bel_self _ (.cells #[.int .i64 4, .int .i64 2] 38)); have VH : Lv ((w18.alloc (.cells #[.slice z18.gp 12 z18.gc, .slice z18.ip 12 z18.ic, .slice z18.tp 12 z18.tc] 30)).alloc (.cells #[.int .i64 4, .int .i64 2] 38)) (w18.heap.size + 1) #[.int .i64 4, .int .i64 2] 38 := heap_at (by simp); have tV : Tr ((w18.alloc (.cells #[.slice z18.gp 12 z18.gc, .slice z18.ip 12 z18.ic, .slice z18.tp 12 z18.tc] 30)).alloc (.cells #[.int .i64 4, .int .i64 2] 38)) z18 V := (by rw [← HT.out.2.2]; exact t18.below ((bel_self w18 (.cells #[.slice z18.gp 12 z18.gc, .slice z18.ip 12 z18.ic, .slice z18.tp 12 z18.tc] 30)).alloc (by simp) (.cells #[.int .i64 4, .int .i64 2] 38))); clear t18; clear e0 e1 e2; obtain ⟨e0, e1, e2⟩ := (VU.below BU18).at)
        | (go_at_call 22; refine (make_any z14 U 12 _ (tU.below BU16) wfU (by decide) 0 false HU.out.2.2.1 0 0 HM.out.2.2.2.2.2.2.1 HM.out.2.2.2.2.2.2.2).mono ?_; rintro e w17 ⟨z17, rfl, _, b17⟩; have c17 := bel_call b17 (Nat.le_refl _) ((bel_self w17 (.cells #[.slice z17.gp 12 z17.gc, .slice z17.ip 12 z17.ic, .slice z17.tp 12 z17.tc] 30)).alloc (by simp) (.cells #[.int .i64 0, .int .i64 0] 38)); have BT17 := bel_call BT16 (Nat.le_refl _) c17; have BU17 := bel_call BU16 (Nat.le_refl _) c17; clear e0 e1 e2; obtain ⟨e0, e1, e2⟩ := (VU.below BU17).at)
        | (go_at_call 22; refine (make_any z14 U 12 _ (tU.below BU15) wfU (by decide) 4 false HU.out.2.1 0 0 HM.out.2.2.2.2.1 HM.out.2.2.2.2.2.1).mono ?_; rintro e w16 ⟨z16, rfl, _, b16⟩; have c16 := bel_call b16 (Nat.le_refl _) ((bel_self w16 (.cells #[.slice z16.gp 12 z16.gc, .slice z16.ip 12 z16.ic, .slice z16.tp 12 z16.tc] 30)).alloc (by simp) (.cells #[.int .i64 0, .int .i64 0] 38)); have BT16 := bel_call BT15 (Nat.le_refl _) c16; have BU16 := bel_call BU15 (Nat.le_refl _) c16; clear e0 e1 e2; obtain ⟨e0, e1, e2⟩ := (VU.below BU16).at)
        | (go_at_call 22; refine (make_any z14 U 12 _ (tU.below BU14) wfU (by decide) 1 false HU.out.1 0 0 HM.out.2.2.1 HM.out.2.2.2.1).mono ?_; rintro e w15 ⟨z15, rfl, _, b15⟩; have c15 := bel_call b15 (Nat.le_refl _) ((bel_self w15 (.cells #[.slice z15.gp 12 z15.gc, .slice z15.ip 12 z15.ic, .slice z15.tp 12 z15.tc] 30)).alloc (by simp) (.cells #[.int .i64 0, .int .i64 0] 38)); have BT15 := bel_call BT14 (Nat.le_refl _) c15; have BU15 := bel_call BU14 (Nat.le_refl _) c15; clear e0 e1 e2; obtain ⟨e0, e1, e2⟩ := (VU.below BU15).at)
        | (go_at_call 11; refine (drop_any y T 12 _ (ht.below BT13) wfT (by decide) 4 1 i4 i1 true HE.out.2.2.1 0 HW.out.2).mono ?_; rintro e w14 ⟨z14, p14, q14, rfl, t14, _, b14⟩; have c14 := bel_call b14 (Nat.le_refl _) (bel_self w14 (.cells #[.slice z14.gp 12 z14.gc, .slice z14.ip 12 z14.ic, .slice z14.tp 12 z14.tc] 30)); have BT14 := bel_call BT13 (Nat.le_refl _) c14; have BU14 := Below.refl (w14.alloc (.cells #[.slice z14.gp 12 z14.gc, .slice z14.ip 12 z14.ic, .slice z14.tp 12 z14.tc] 30)).heap.size (w14.alloc (.cells #[.slice z14.gp 12 z14.gc, .slice z14.ip 12 z14.ic, .slice z14.tp 12 z14.tc] 30)); have VU := Vw.new w14 z14 30; have tU : Tr (w14.alloc (.cells #[.slice z14.gp 12 z14.gc, .slice z14.ip 12 z14.ic, .slice z14.tp 12 z14.tc] 30)) z14 U := (by rw [← HT.out.2.1]; exact t14.below (bel_self w14 (.cells #[.slice z14.gp 12 z14.gc, .slice z14.ip 12 z14.ic, .slice z14.tp 12 z14.tc] 30))); clear t14; clear e0 e1 e2; obtain ⟨e0, e1, e2⟩ := VU.at)
        | (go_at_call 11; refine (drop_any y T 12 _ (ht.below BT12) wfT (by decide) 0 1 i0 i1 false HE.out.2.1 0 HW.out.1).mono ?_; rintro e w13 ⟨z13, p13, q13, rfl, _, _, b13⟩; have c13 := bel_call b13 (Nat.le_refl _) (bel_self w13 (.cells #[.slice z13.gp 12 z13.gc, .slice z13.ip 12 z13.ic, .slice z13.tp 12 z13.tc] 30)); have BT13 := bel_call BT12 (Nat.le_refl _) c13; clear e0 e1 e2; obtain ⟨e0, e1, e2⟩ := (hV.below BT13).at)
        | (go_at_call 22; refine (make_any y T 12 _ ht wfT (by decide) 1 false HE.out.1 0 0 HM.out.1 HM.out.2.1).mono ?_; rintro e w12 ⟨z12, rfl, _, b12⟩; have c12 := bel_call b12 (Nat.le_refl _) ((bel_self w12 (.cells #[.slice z12.gp 12 z12.gc, .slice z12.ip 12 z12.ic, .slice z12.tp 12 z12.tc] 30)).alloc (by simp) (.cells #[.int .i64 0, .int .i64 0] 38)); have BT12 := c12; clear e0 e1 e2; obtain ⟨e0, e1, e2⟩ := (hV.below BT12).at))
      have r24 := own_rd o24
      rw [HE.out.2.2.2] at r24
      obtain ⟨b, o, e, hb, hc⟩ := r24.num 3 (by decide)
      subst e
      have hc9 : w24.cell? ⟨b, o + 3, none⟩ = some (.int .i64 9) := hc
      clear hc r24 o24
      go_wp2
      go_ret
      exact ⟨rfl, bel_call hbw (Nat.le_refl _) BT24⟩
end Go.Proofs.Ytcncpefdjgnhdaa
