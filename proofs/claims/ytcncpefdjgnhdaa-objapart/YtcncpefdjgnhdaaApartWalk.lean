/-
  The walk of ObjApart.
-/
import Derived.Test.YtcncpefdjgnhdaaAparts
import Derived.Test.YtcncpefdjgnhdaaBegun
import Derived.Test.YtcncpefdjgnhdaaKepts
import Derived.Test.YtcncpefdjgnhdaaArgs
import Derived.Test.YtcncpefdjgnhdaaHand
import Derived.Test.YtcncpefdjgnhdaaKeeps
import Derived.Test.YtcncpefdjgnhdaaTables
import Derived.Test.YtcncpefdjgnhdaaSames
import Derived.Test.YtcncpefdjgnhdaaPuts
import Derived.Deep.Cut
import Derived.Deep.CutRange
import Derived.Laws.BitsAllLaws
namespace Go.Proofs.Ytcncpefdjgnhdaa
open Go.ChangeShapes Go.WideShapes Go.ChangeAt Go.RowKit
attribute [local go_sem ↓] Go.wp_at_zero Go.wp_at_succ

theorem bit_val {m : Nat} (k : Nat) (hm : m < 65536) : bits .and .u16 ((m : Int) / 2 ^ k) 1 = ((m.testBit k).toNat : Int) := by
  have e : ((m : Int) / 2 ^ k) = ((m / 2 ^ k : Nat) : Int) := by simp
  have hl : m / 2 ^ k ≤ m := Nat.div_le_self _ _
  rw [e]
  have := u16_and_nat (m / 2 ^ k) 1 (by omega) (by decide)
  rw [nat_mask1] at this
  rw [Nat.toNat_testBit]
  exact this
theorem bit_one {m : Nat} (k : Nat) (hm : m < 65536) : (bits .and .u16 ((m : Int) / 2 ^ k) 1 == 1) = m.testBit k := by
  rw [bit_val k hm]
  cases m.testBit k <;> rfl
theorem cell_bel {W w' : World} {b o : Nat} {v : Value} (hS : Below W.heap.size W w') (hb : b < W.heap.size) (h : W.cell? ⟨b, o, none⟩ = some v) : w'.cell? ⟨b, o, none⟩ = some v := (hS.cell (p := ⟨b, o, none⟩) hb).trans h
theorem ok_put (w : World) (j : Nat) : Ok ((w.alloc (.cells #[.int .i64 (j : Int)] 2)).alloc (.cells #[.int .i64 ((j : Int) + 1)] 3)) (⟨0, 0, 0, 3, 2, some ⟨w.heap.size, 0, none⟩, 1, 1, some ⟨w.heap.size + 1, 0, none⟩, 1, 1, 5, none, 0, 0, 0⟩ : Tc) ⟨0, 0, 0, 3, 2, [(j : Int)], [(j : Int) + 1], 5, [], 0⟩ :=
  ⟨rfl, rfl, rfl, rfl, rfl, rfl, rfl, rfl, rfl, rfl, (rd_block (heap_alloc_new w _) 1 rfl rfl).below (bel_self _ _), rd_block (heap_at (by simp)) 1 rfl rfl, Rd.nil _, by show 1 ≤ 100; decide, by show 1 ≤ 100; decide, by show 0 ≤ 100; decide, by show 5 < _; decide, by show 0 < _; decide, fun y hy => by simp at hy⟩
set_option maxRecDepth 20000 in
set_option maxHeartbeats 40000000 in
theorem apart_walk (lp : Option Addr) (lc : Nat) (Z : List Int) (w : World) (hr : Rd eBy w lp lc Z) (ln : Nat) (hl : Z.length = ln) (hz : ∀ y ∈ Z, 0 ≤ y ∧ y ≤ 255) (tn pn : Nat) (ht9 : tn < 65536) (hp9 : pn < 65536) :
    Calls Try.prog 4 #[.slice lp ln lc, .int .u16 (tn : Int), .int .u16 (pn : Int)] w fun e w' => e = .returned (.bool true) ∧ Below w.heap.size w w' := by
  have HLN : Hid (Z.length = ln) := hl
  have HZ : Hid (∀ y ∈ Z, 0 ≤ y ∧ y ≤ 255) := hz
  clear hl hz
  by_cases h60 : ln ≤ 12
  · have d60 : decide ((ln : Int) > 12) = false := by simp; omega
    go_enter Try.func4, Try.ntmps4
    go_wp2_with (first
      | (go_at_call 8; refine (begun_any _).mono ?_; rintro e w1 ⟨rfl, b1⟩)
      | (go_at_call 9; refine (new_any _).mono ?_; rintro e w2 ⟨y0, rfl, t0, b2⟩))
    obtain ⟨A, hA⟩ : ∃ A : Obj, A = .cells #[.slice y0.gp 12 y0.gc, .slice y0.ip 12 y0.ic, .slice y0.tp 12 y0.tc] 30 := ⟨_, rfl⟩
    have s2 := bel_self w2 A
    have hV0 : Vw (w2.alloc A) w2.heap.size y0 30 := by subst hA; exact Vw.new w2 y0 30
    have hT0 := t0.below s2
    have b0 := bel_call (bel_call b1 (Nat.le_refl _) b2) (Nat.le_refl _) s2
    obtain ⟨g, hg⟩ : ∃ g, g = w2.heap.size := ⟨_, rfl⟩
    have hgw : w.heap.size ≤ g := by have h1 := b1.size; have h2 := b2.size; omega
    rw [← hg] at hV0
    try rw [← hA]
    simp only [← hg]
    generalize w2.alloc A = W0 at *
    clear hA hg b1 b2 s2 t0
    go_loopw [8] (fun i wr => ∃ (n : Nat) (y : Tw) (T : Tb), n ≤ ln ∧ i = .int .i64 n ∧ Wf n T ∧ Nt0 T ∧ Vw wr g y 30 ∧ Tr wr y T ∧ Below w.heap.size w wr) (fun i _ => ln - (intOf i).toNat)
    case atStart => exact ⟨0, y0, newT, Nat.zero_le _, rfl, new_wf, nt_new, hV0, hT0, b0⟩
    case round =>
      obtain ⟨n, y, T, hn, rfl, wf, hNt, hV, ht, hbw⟩ := hrel
      clear hV0 hT0 b0
      by_cases hlt : n < ln
      · as_aux_lemma =>
          have hnI : (n : Int) < (ln : Int) := by omega
          have hnZ : (0 : Int) ≤ (n : Int) := by omega
          have hnz : n < Z.length := by rw [HLN.out]; exact hlt
          obtain ⟨lb, lo, el, hlb, f0⟩ := (hr.below hbw).byte n hnz
          subst el
          have hby := HZ.out Z[n] (List.getElem_mem _)
          obtain ⟨u, hu⟩ := Int.eq_ofNat_of_zero_le hby.1
          have hu9 : u ≤ 255 := by have := hby.2; omega
          rw [hu] at f0
          clear hby hu
          obtain ⟨kk, hkk⟩ : ∃ kk, 1 + (u : Int) % 3 = kk := ⟨_, rfl⟩
          have r1 : (u : Int).tmod 3 = (u : Int) % 3 := Int.tmod_eq_emod_of_nonneg (by omega)
          have r2 : IntKind.i64.wrap ((u : Int) % 3) = (u : Int) % 3 := by rw [IntKind.wrap_i64]; omega
          have r3 : IntKind.i64.wrap kk = kk := by rw [IntKind.wrap_i64]; omega
          obtain ⟨B, hB⟩ : ∃ B, mkOk T kk = B := ⟨_, rfl⟩
          obtain ⟨hA, hha⟩ : ∃ hA, mkA T kk = hA := ⟨_, rfl⟩
          obtain ⟨hG, hhg⟩ : ∃ hG, mkG T kk = hG := ⟨_, rfl⟩
          have HB : Hid (mkOk T kk = B) := hB
          have HAG : Hid (mkA T kk = hA ∧ mkG T kk = hG) := ⟨hha, hhg⟩
          have HNT : Hid (Nt0 (mkR T kk)) := nt_make wf hNt kk
          have hwf2 : Wf (n + 1) (mkR T kk) := mkR_wf wf kk
          clear hB hha hhg hNt
          go_upto_region 9 with fail
          go_cut [9, 10, 11] from 37 to 50 (fun a q o wx => ∃ (gx gh : Nat) (z : Tw), a = .pointer (some ⟨gx, 0, none⟩) ∧ q = .pointer (some ⟨gh, 0, none⟩) ∧ o = .bool B ∧ Lv wx gx (eTb.enc z).toArray 30 ∧ Tr wx z (mkR T kk) ∧ Below wr.heap.size wr wx)
          case first =>
            obtain ⟨W1, hW1⟩ : ∃ W1, W1 = wr := ⟨_, rfl⟩
            subst hW1
            refine wp_region_held_drew (S := fun w' => Below W1.heap.size W1 w') (by kernel_rfl) (Below.refl _ _).drew (fun hHeld => ?_)
            have bel : Below W1.heap.size W1 W1.drew := (Below.refl _ _).drew
            generalize W1.drew = wd at *
            refine wpAnyH_take (i := 0) (oi := _) (v := ?_) rfl (by kernel_rfl) (by kernel_rfl) (by kernel_rfl) (fun _ _ _ h => h) (Or.inl ⟨by rfl, ?_⟩) hHeld ?_
            rotate_left
            · intro w' hSw
              obtain ⟨e0, e1, e2⟩ := (hV.below hSw).at
              (go_simp <;> with_reducible rfl)
            try simp only [Act.put, List.getElem_toArray, List.getElem_cons_zero, List.setIfInBounds_toArray, List.set_cons_zero, List.set_cons_succ]
            refine wpAnyH_take (i := 1) (oi := _) (v := ?_) rfl (by kernel_rfl) (by kernel_rfl) (by kernel_rfl) (fun _ _ _ h => h) (Or.inl ⟨by rfl, ?_⟩) hHeld ?_
            rotate_left
            · intro w' hSw
              (go_simp <;> with_reducible rfl)
            try simp only [Act.put, List.getElem_toArray, List.getElem_cons_succ, List.getElem_cons_zero, List.setIfInBounds_toArray, List.set_cons_zero, List.set_cons_succ]
            refine wpAnyH_take (i := 2) (oi := _) (v := ?_) rfl (by kernel_rfl) (by kernel_rfl) (by kernel_rfl) (fun _ _ _ h => h) (Or.inl ⟨by rfl, ?_⟩) hHeld ?_
            rotate_left
            · intro w' hSw
              (go_simp <;> with_reducible rfl)
            try simp only [Act.put, List.getElem_toArray, List.getElem_cons_succ, List.getElem_cons_zero, List.setIfInBounds_toArray, List.set_cons_zero, List.set_cons_succ]
            refine wpAnyH_take (i := 3) (oi := _) (v := ?_) rfl (by kernel_rfl) (by kernel_rfl) (by kernel_rfl) (fun _ _ _ h => h) (Or.inl ⟨by rfl, ?_⟩) hHeld ?_
            rotate_left
            · intro w' hSw
              (go_simp <;> with_reducible rfl)
            try simp only [Act.put, List.getElem_toArray, List.getElem_cons_succ, List.getElem_cons_zero, List.setIfInBounds_toArray, List.set_cons_zero, List.set_cons_succ]
            refine wpAnyH_take (i := 4) (oi := _) (v := ?_) rfl (by kernel_rfl) (by kernel_rfl) (by kernel_rfl) (fun _ _ _ h => h) (Or.inl ⟨by rfl, ?_⟩) hHeld ?_
            rotate_left
            · intro w' hSw
              have f0 : w'.cell? ⟨lb, lo + n, none⟩ = some (.int .u8 (u : Int)) := (hSw.cell (p := ⟨lb, lo + n, none⟩) hlb).trans f0
              (go_simp <;> with_reducible rfl)
            try simp only [Act.put, List.getElem_toArray, List.getElem_cons_succ, List.getElem_cons_zero, List.setIfInBounds_toArray, List.set_cons_zero, List.set_cons_succ]
            refine wpAnyH_take (i := 5) (oi := _) (v := ?_) rfl (by kernel_rfl) (by kernel_rfl) (by kernel_rfl) (fun _ _ _ h => h) (Or.inl ⟨by rfl, ?_⟩) hHeld ?_
            rotate_left
            · intro w' hSw
              (go_simp <;> with_reducible rfl)
            try simp only [Act.put, List.getElem_toArray, List.getElem_cons_succ, List.getElem_cons_zero, List.setIfInBounds_toArray, List.set_cons_zero, List.set_cons_succ]
            refine wpAnyH_take (i := 6) (oi := _) (v := ?_) rfl (by kernel_rfl) (by kernel_rfl) (by kernel_rfl) (fun _ _ _ h => h) (Or.inl ⟨by rfl, ?_⟩) hHeld ?_
            rotate_left
            · intro w' hSw
              (go_simp <;> with_reducible rfl)
            try simp only [Act.put, List.getElem_toArray, List.getElem_cons_succ, List.getElem_cons_zero, List.setIfInBounds_toArray, List.set_cons_zero, List.set_cons_succ]
            refine wpAnyH_take (i := 7) (oi := _) (v := ?_) rfl (by kernel_rfl) (by kernel_rfl) (by kernel_rfl) (fun _ _ _ h => h) (Or.inl ⟨by rfl, ?_⟩) hHeld ?_
            rotate_left
            · intro w' hSw
              (go_simp <;> with_reducible rfl)
            try simp only [Act.put, List.getElem_toArray, List.getElem_cons_succ, List.getElem_cons_zero, List.setIfInBounds_toArray, List.set_cons_zero, List.set_cons_succ]
            refine wpAnyH_ready (rs := [8, 13, 14]) (by kernel_rfl) (by simp) ?_
            refine AllReadyH.cons (o := _) rfl (fun K hK => ?_) (AllReadyH.cons (o := _) rfl (fun K hK => ?_) (AllReadyH.cons (o := _) rfl (fun K hK => ?_) (AllReadyH.nil)))
            · go_simp
              have hB0 : W1.heap.size ≤ wd.heap.size := bel.size
              go_at_call 22; refine (make_n y T n _ (ht.below bel) wf (by omega) kk B HB.out hA hG HAG.out.1 HAG.out.2).mono ?_
              rintro e w3 ⟨z, rfl, ⟨gl, xs, ow⟩, b3⟩
              have bel := bel_call bel (Nat.le_refl _) b3
              have M : Kept wd.heap.size w3 w3 := Kept.refl _ _
              refine hK.out _ _ bel (fun hHeld => ?_)
              clear hK K
              try simp only [Act.put, List.getElem_toArray, List.getElem_cons_succ, List.getElem_cons_zero, List.setIfInBounds_toArray, List.set_cons_zero, List.set_cons_succ]
              refine wpAnyH_take (i := 9) (oi := _) (v := ?_) rfl (by kernel_rfl) (by kernel_rfl) (by kernel_rfl) (fun _ _ _ h => h) (Or.inl ⟨by rfl, ?_⟩) hHeld ?_
              rotate_left
              · intro w' hSw
                (go_simp <;> with_reducible rfl)
              try simp only [Act.put, List.getElem_toArray, List.getElem_cons_succ, List.getElem_cons_zero, List.setIfInBounds_toArray, List.set_cons_zero, List.set_cons_succ]
              refine wpAnyH_take (i := 10) (oi := _) (v := ?_) rfl (by kernel_rfl) (by kernel_rfl) (by kernel_rfl) (fun _ _ _ h => h) (Or.inl ⟨by rfl, ?_⟩) hHeld ?_
              rotate_left
              · intro w' hSw
                (go_simp <;> with_reducible rfl)
              try simp only [Act.put, List.getElem_toArray, List.getElem_cons_succ, List.getElem_cons_zero, List.setIfInBounds_toArray, List.set_cons_zero, List.set_cons_succ]
              refine wpAnyH_take (i := 11) (oi := _) (v := ?_) rfl (by kernel_rfl) (by kernel_rfl) (by kernel_rfl) (fun _ _ _ h => h) (Or.inl ⟨by rfl, ?_⟩) hHeld ?_
              rotate_left
              · intro w' hSw
                (go_simp <;> with_reducible rfl)
              try simp only [Act.put, List.getElem_toArray, List.getElem_cons_succ, List.getElem_cons_zero, List.setIfInBounds_toArray, List.set_cons_zero, List.set_cons_succ]
              refine wpAnyH_take (i := 12) (oi := _) (v := ?_) rfl (by kernel_rfl) (by kernel_rfl) (by kernel_rfl) (fun _ _ _ h => h) (Or.inl ⟨by rfl, ?_⟩) hHeld ?_
              rotate_left
              · intro w' hSw
                (go_simp <;> with_reducible rfl)
              try simp only [Act.put, List.getElem_toArray, List.getElem_cons_succ, List.getElem_cons_zero, List.setIfInBounds_toArray, List.set_cons_zero, List.set_cons_succ]
              refine wpAnyH_ready (rs := [13, 14]) (by kernel_rfl) (by simp) ?_
              refine AllReadyH.cons (o := _) rfl (fun K hK => ?_) (AllReadyH.cons (o := _) rfl (fun K hK => ?_) (AllReadyH.nil))
              · go_simp
                have ba := bel_self w3 (.cells #[.slice none 0 0, .slice none 0 0, .slice none 0 0] 30)
                have LX : Lv (w3.alloc (.cells #[.slice none 0 0, .slice none 0 0, .slice none 0 0] 30)) w3.heap.size #[.slice none 0 0, .slice none 0 0, .slice none 0 0] 30 := Lv.new _ _ _
                have hms := M.size
                have M := M.below ba
                have hX0 : W1.heap.size ≤ w3.heap.size := bel.size
                have bel := bel_call bel (Nat.le_refl _) ba
                refine hK.out _ _ bel (fun hHeld => ?_)
                clear hK K
                obtain ⟨gx, hg⟩ : ∃ g, g = w3.heap.size := ⟨_, rfl⟩
                have hXc : gx < wd.heap.size ∨ w3.heap.size ≤ gx := Or.inr (by rw [hg]; exact hms)
                clear hms
                rw [← hg] at LX hX0
                try simp only [← hg]
                clear hg ba
                generalize w3.alloc (.cells #[.slice none 0 0, .slice none 0 0, .slice none 0 0] 30) = waX at *
                try simp only [Act.put, List.getElem_toArray, List.getElem_cons_succ, List.getElem_cons_zero, List.setIfInBounds_toArray, List.set_cons_zero, List.set_cons_succ]
                refine wpAnyH_ready (rs := [14]) (by kernel_rfl) (by simp) ?_
                refine AllReadyH.cons (o := _) rfl (fun K hK => ?_) (AllReadyH.nil)
                go_simp
                have ba := bel_self waX (.cells #[.int .i64 0, .int .i64 0] 38)
                have LH : Lv (waX.alloc (.cells #[.int .i64 0, .int .i64 0] 38)) waX.heap.size #[.int .i64 0, .int .i64 0] 38 := Lv.new _ _ _
                have LX := LX.below ba
                have hms := M.size
                have M := M.below ba
                have hH0 : W1.heap.size ≤ waX.heap.size := bel.size
                have bel := bel_call bel (Nat.le_refl _) ba
                refine hK.out _ _ bel (fun hHeld => ?_)
                clear hK K
                obtain ⟨gh, hg⟩ : ∃ g, g = waX.heap.size := ⟨_, rfl⟩
                have hHc : gh < wd.heap.size ∨ w3.heap.size ≤ gh := Or.inr (by rw [hg]; exact hms)
                clear hms
                rw [← hg] at LH hH0
                try simp only [← hg]
                clear hg ba
                generalize waX.alloc (.cells #[.int .i64 0, .int .i64 0] 38) = waH at *
                try simp only [Act.put, List.getElem_toArray, List.getElem_cons_succ, List.getElem_cons_zero, List.setIfInBounds_toArray, List.set_cons_zero, List.set_cons_succ]
                refine wpAnyH_ready (rs := [15]) (by kernel_rfl) (by simp) ?_
                refine AllReadyH.cons (o := _) rfl (fun K hK => ?_) (AllReadyH.nil)
                have hne : gx ≠ gh := LX.ne LH (by decide)
                refine step_stV (E := eTb) rfl 30 _ _ rfl size30 gx _ LX rfl z rfl rfl ?_
                intro wsX LX2 k9
                have LX := LX2
                clear LX2
                have LH := LH.kp k9 hne.symm
                have M := M.kp k9 hXc
                have bel := bel_kp bel k9 hX0 bel.size
                refine hK.out _ _ bel (fun hHeld => ?_)
                clear hK K
                clear k9
                try simp only [Act.put, List.getElem_toArray, List.getElem_cons_succ, List.getElem_cons_zero]
                refine wpAnyH_ready (rs := [16]) (by kernel_rfl) (by simp) ?_
                refine AllReadyH.cons (o := _) rfl (fun K hK => ?_) (AllReadyH.nil)
                refine step_stV (E := eH) rfl 38 _ _ rfl size38 gh _ LH rfl (hA, hG) rfl rfl ?_
                intro wsH LH2 k9
                have LH := LH2
                clear LH2
                have LX := LX.kp k9 hne
                have M := M.kp k9 hHc
                have bel := bel_kp bel k9 hH0 bel.size
                refine hK.out _ _ bel (fun hHeld => ?_)
                clear hK K
                clear k9
                try simp only [Act.put, List.getElem_toArray, List.getElem_cons_succ, List.getElem_cons_zero]
                refine wpAnyH_take (i := 17) (oi := _) (v := ?_) rfl (by kernel_rfl) (by kernel_rfl) (by kernel_rfl) (fun _ _ _ h => h) (Or.inl ⟨by rfl, ?_⟩) hHeld ?_
                rotate_left
                · intro w' hSw
                  (go_simp <;> with_reducible rfl)
                try simp only [Act.put, List.getElem_toArray, List.getElem_cons_succ, List.getElem_cons_zero, List.setIfInBounds_toArray, List.set_cons_zero, List.set_cons_succ]
                refine wpAnyH_done (by kernel_rfl) ?_ _
                go_wp2_with fail
                go_meet
                case rel => exact ⟨gx, gh, z, rfl, rfl, rfl, LX, ow.kept M, bel⟩
              · go_simp
                have ba := bel_self w3 (.cells #[.int .i64 0, .int .i64 0] 38)
                have LH : Lv (w3.alloc (.cells #[.int .i64 0, .int .i64 0] 38)) w3.heap.size #[.int .i64 0, .int .i64 0] 38 := Lv.new _ _ _
                have hms := M.size
                have M := M.below ba
                have hH0 : W1.heap.size ≤ w3.heap.size := bel.size
                have bel := bel_call bel (Nat.le_refl _) ba
                refine hK.out _ _ bel (fun hHeld => ?_)
                clear hK K
                obtain ⟨gh, hg⟩ : ∃ g, g = w3.heap.size := ⟨_, rfl⟩
                have hHc : gh < wd.heap.size ∨ w3.heap.size ≤ gh := Or.inr (by rw [hg]; exact hms)
                clear hms
                rw [← hg] at LH hH0
                try simp only [← hg]
                clear hg ba
                generalize w3.alloc (.cells #[.int .i64 0, .int .i64 0] 38) = waH at *
                try simp only [Act.put, List.getElem_toArray, List.getElem_cons_succ, List.getElem_cons_zero, List.setIfInBounds_toArray, List.set_cons_zero, List.set_cons_succ]
                refine wpAnyH_ready (rs := [13]) (by kernel_rfl) (by simp) ?_
                refine AllReadyH.cons (o := _) rfl (fun K hK => ?_) (AllReadyH.nil)
                go_simp
                have ba := bel_self waH (.cells #[.slice none 0 0, .slice none 0 0, .slice none 0 0] 30)
                have LX : Lv (waH.alloc (.cells #[.slice none 0 0, .slice none 0 0, .slice none 0 0] 30)) waH.heap.size #[.slice none 0 0, .slice none 0 0, .slice none 0 0] 30 := Lv.new _ _ _
                have LH := LH.below ba
                have hms := M.size
                have M := M.below ba
                have hX0 : W1.heap.size ≤ waH.heap.size := bel.size
                have bel := bel_call bel (Nat.le_refl _) ba
                refine hK.out _ _ bel (fun hHeld => ?_)
                clear hK K
                obtain ⟨gx, hg⟩ : ∃ g, g = waH.heap.size := ⟨_, rfl⟩
                have hXc : gx < wd.heap.size ∨ w3.heap.size ≤ gx := Or.inr (by rw [hg]; exact hms)
                clear hms
                rw [← hg] at LX hX0
                try simp only [← hg]
                clear hg ba
                generalize waH.alloc (.cells #[.slice none 0 0, .slice none 0 0, .slice none 0 0] 30) = waX at *
                try simp only [Act.put, List.getElem_toArray, List.getElem_cons_succ, List.getElem_cons_zero, List.setIfInBounds_toArray, List.set_cons_zero, List.set_cons_succ]
                refine wpAnyH_ready (rs := [15]) (by kernel_rfl) (by simp) ?_
                refine AllReadyH.cons (o := _) rfl (fun K hK => ?_) (AllReadyH.nil)
                have hne : gx ≠ gh := LX.ne LH (by decide)
                refine step_stV (E := eTb) rfl 30 _ _ rfl size30 gx _ LX rfl z rfl rfl ?_
                intro wsX LX2 k9
                have LX := LX2
                clear LX2
                have LH := LH.kp k9 hne.symm
                have M := M.kp k9 hXc
                have bel := bel_kp bel k9 hX0 bel.size
                refine hK.out _ _ bel (fun hHeld => ?_)
                clear hK K
                clear k9
                try simp only [Act.put, List.getElem_toArray, List.getElem_cons_succ, List.getElem_cons_zero]
                refine wpAnyH_ready (rs := [16]) (by kernel_rfl) (by simp) ?_
                refine AllReadyH.cons (o := _) rfl (fun K hK => ?_) (AllReadyH.nil)
                refine step_stV (E := eH) rfl 38 _ _ rfl size38 gh _ LH rfl (hA, hG) rfl rfl ?_
                intro wsH LH2 k9
                have LH := LH2
                clear LH2
                have LX := LX.kp k9 hne
                have M := M.kp k9 hHc
                have bel := bel_kp bel k9 hH0 bel.size
                refine hK.out _ _ bel (fun hHeld => ?_)
                clear hK K
                clear k9
                try simp only [Act.put, List.getElem_toArray, List.getElem_cons_succ, List.getElem_cons_zero]
                refine wpAnyH_take (i := 17) (oi := _) (v := ?_) rfl (by kernel_rfl) (by kernel_rfl) (by kernel_rfl) (fun _ _ _ h => h) (Or.inl ⟨by rfl, ?_⟩) hHeld ?_
                rotate_left
                · intro w' hSw
                  (go_simp <;> with_reducible rfl)
                try simp only [Act.put, List.getElem_toArray, List.getElem_cons_succ, List.getElem_cons_zero, List.setIfInBounds_toArray, List.set_cons_zero, List.set_cons_succ]
                refine wpAnyH_done (by kernel_rfl) ?_ _
                go_wp2_with fail
                go_meet
                case rel => exact ⟨gx, gh, z, rfl, rfl, rfl, LX, ow.kept M, bel⟩
            · go_simp
              have ba := bel_self wd (.cells #[.slice none 0 0, .slice none 0 0, .slice none 0 0] 30)
              have LX : Lv (wd.alloc (.cells #[.slice none 0 0, .slice none 0 0, .slice none 0 0] 30)) wd.heap.size #[.slice none 0 0, .slice none 0 0, .slice none 0 0] 30 := Lv.new _ _ _
              have hX0 : W1.heap.size ≤ wd.heap.size := bel.size
              have bel := bel_call bel (Nat.le_refl _) ba
              refine hK.out _ _ bel (fun hHeld => ?_)
              clear hK K
              obtain ⟨gx, hg⟩ : ∃ g, g = wd.heap.size := ⟨_, rfl⟩
              rw [← hg] at LX hX0
              try simp only [← hg]
              clear hg ba
              generalize wd.alloc (.cells #[.slice none 0 0, .slice none 0 0, .slice none 0 0] 30) = waX at *
              try simp only [Act.put, List.getElem_toArray, List.getElem_cons_succ, List.getElem_cons_zero, List.setIfInBounds_toArray, List.set_cons_zero, List.set_cons_succ]
              refine wpAnyH_ready (rs := [8, 14]) (by kernel_rfl) (by simp) ?_
              refine AllReadyH.cons (o := _) rfl (fun K hK => ?_) (AllReadyH.cons (o := _) rfl (fun K hK => ?_) (AllReadyH.nil))
              · go_simp
                have hB0 : W1.heap.size ≤ waX.heap.size := bel.size
                go_at_call 22; refine (make_n y T n _ (ht.below bel) wf (by omega) kk B HB.out hA hG HAG.out.1 HAG.out.2).mono ?_
                rintro e w3 ⟨z, rfl, ⟨gl, xs, ow⟩, b3⟩
                have hXc : gx < waX.heap.size ∨ w3.heap.size ≤ gx := Or.inl LX.lt
                have LX := LX.below b3
                have bel := bel_call bel (Nat.le_refl _) b3
                have M : Kept waX.heap.size w3 w3 := Kept.refl _ _
                refine hK.out _ _ bel (fun hHeld => ?_)
                clear hK K
                try simp only [Act.put, List.getElem_toArray, List.getElem_cons_succ, List.getElem_cons_zero, List.setIfInBounds_toArray, List.set_cons_zero, List.set_cons_succ]
                refine wpAnyH_take (i := 9) (oi := _) (v := ?_) rfl (by kernel_rfl) (by kernel_rfl) (by kernel_rfl) (fun _ _ _ h => h) (Or.inl ⟨by rfl, ?_⟩) hHeld ?_
                rotate_left
                · intro w' hSw
                  (go_simp <;> with_reducible rfl)
                try simp only [Act.put, List.getElem_toArray, List.getElem_cons_succ, List.getElem_cons_zero, List.setIfInBounds_toArray, List.set_cons_zero, List.set_cons_succ]
                refine wpAnyH_take (i := 10) (oi := _) (v := ?_) rfl (by kernel_rfl) (by kernel_rfl) (by kernel_rfl) (fun _ _ _ h => h) (Or.inl ⟨by rfl, ?_⟩) hHeld ?_
                rotate_left
                · intro w' hSw
                  (go_simp <;> with_reducible rfl)
                try simp only [Act.put, List.getElem_toArray, List.getElem_cons_succ, List.getElem_cons_zero, List.setIfInBounds_toArray, List.set_cons_zero, List.set_cons_succ]
                refine wpAnyH_take (i := 11) (oi := _) (v := ?_) rfl (by kernel_rfl) (by kernel_rfl) (by kernel_rfl) (fun _ _ _ h => h) (Or.inl ⟨by rfl, ?_⟩) hHeld ?_
                rotate_left
                · intro w' hSw
                  (go_simp <;> with_reducible rfl)
                try simp only [Act.put, List.getElem_toArray, List.getElem_cons_succ, List.getElem_cons_zero, List.setIfInBounds_toArray, List.set_cons_zero, List.set_cons_succ]
                refine wpAnyH_take (i := 12) (oi := _) (v := ?_) rfl (by kernel_rfl) (by kernel_rfl) (by kernel_rfl) (fun _ _ _ h => h) (Or.inl ⟨by rfl, ?_⟩) hHeld ?_
                rotate_left
                · intro w' hSw
                  (go_simp <;> with_reducible rfl)
                try simp only [Act.put, List.getElem_toArray, List.getElem_cons_succ, List.getElem_cons_zero, List.setIfInBounds_toArray, List.set_cons_zero, List.set_cons_succ]
                refine wpAnyH_ready (rs := [14]) (by kernel_rfl) (by simp) ?_
                refine AllReadyH.cons (o := _) rfl (fun K hK => ?_) (AllReadyH.nil)
                go_simp
                have ba := bel_self w3 (.cells #[.int .i64 0, .int .i64 0] 38)
                have LH : Lv (w3.alloc (.cells #[.int .i64 0, .int .i64 0] 38)) w3.heap.size #[.int .i64 0, .int .i64 0] 38 := Lv.new _ _ _
                have LX := LX.below ba
                have hms := M.size
                have M := M.below ba
                have hH0 : W1.heap.size ≤ w3.heap.size := bel.size
                have bel := bel_call bel (Nat.le_refl _) ba
                refine hK.out _ _ bel (fun hHeld => ?_)
                clear hK K
                obtain ⟨gh, hg⟩ : ∃ g, g = w3.heap.size := ⟨_, rfl⟩
                have hHc : gh < waX.heap.size ∨ w3.heap.size ≤ gh := Or.inr (by rw [hg]; exact hms)
                clear hms
                rw [← hg] at LH hH0
                try simp only [← hg]
                clear hg ba
                generalize w3.alloc (.cells #[.int .i64 0, .int .i64 0] 38) = waH at *
                try simp only [Act.put, List.getElem_toArray, List.getElem_cons_succ, List.getElem_cons_zero, List.setIfInBounds_toArray, List.set_cons_zero, List.set_cons_succ]
                refine wpAnyH_ready (rs := [15]) (by kernel_rfl) (by simp) ?_
                refine AllReadyH.cons (o := _) rfl (fun K hK => ?_) (AllReadyH.nil)
                have hne : gx ≠ gh := LX.ne LH (by decide)
                refine step_stV (E := eTb) rfl 30 _ _ rfl size30 gx _ LX rfl z rfl rfl ?_
                intro wsX LX2 k9
                have LX := LX2
                clear LX2
                have LH := LH.kp k9 hne.symm
                have M := M.kp k9 hXc
                have bel := bel_kp bel k9 hX0 bel.size
                refine hK.out _ _ bel (fun hHeld => ?_)
                clear hK K
                clear k9
                try simp only [Act.put, List.getElem_toArray, List.getElem_cons_succ, List.getElem_cons_zero]
                refine wpAnyH_ready (rs := [16]) (by kernel_rfl) (by simp) ?_
                refine AllReadyH.cons (o := _) rfl (fun K hK => ?_) (AllReadyH.nil)
                refine step_stV (E := eH) rfl 38 _ _ rfl size38 gh _ LH rfl (hA, hG) rfl rfl ?_
                intro wsH LH2 k9
                have LH := LH2
                clear LH2
                have LX := LX.kp k9 hne
                have M := M.kp k9 hHc
                have bel := bel_kp bel k9 hH0 bel.size
                refine hK.out _ _ bel (fun hHeld => ?_)
                clear hK K
                clear k9
                try simp only [Act.put, List.getElem_toArray, List.getElem_cons_succ, List.getElem_cons_zero]
                refine wpAnyH_take (i := 17) (oi := _) (v := ?_) rfl (by kernel_rfl) (by kernel_rfl) (by kernel_rfl) (fun _ _ _ h => h) (Or.inl ⟨by rfl, ?_⟩) hHeld ?_
                rotate_left
                · intro w' hSw
                  (go_simp <;> with_reducible rfl)
                try simp only [Act.put, List.getElem_toArray, List.getElem_cons_succ, List.getElem_cons_zero, List.setIfInBounds_toArray, List.set_cons_zero, List.set_cons_succ]
                refine wpAnyH_done (by kernel_rfl) ?_ _
                go_wp2_with fail
                go_meet
                case rel => exact ⟨gx, gh, z, rfl, rfl, rfl, LX, ow.kept M, bel⟩
              · go_simp
                have ba := bel_self waX (.cells #[.int .i64 0, .int .i64 0] 38)
                have LH : Lv (waX.alloc (.cells #[.int .i64 0, .int .i64 0] 38)) waX.heap.size #[.int .i64 0, .int .i64 0] 38 := Lv.new _ _ _
                have LX := LX.below ba
                have hH0 : W1.heap.size ≤ waX.heap.size := bel.size
                have bel := bel_call bel (Nat.le_refl _) ba
                refine hK.out _ _ bel (fun hHeld => ?_)
                clear hK K
                obtain ⟨gh, hg⟩ : ∃ g, g = waX.heap.size := ⟨_, rfl⟩
                rw [← hg] at LH hH0
                try simp only [← hg]
                clear hg ba
                generalize waX.alloc (.cells #[.int .i64 0, .int .i64 0] 38) = waH at *
                try simp only [Act.put, List.getElem_toArray, List.getElem_cons_succ, List.getElem_cons_zero, List.setIfInBounds_toArray, List.set_cons_zero, List.set_cons_succ]
                refine wpAnyH_ready (rs := [8]) (by kernel_rfl) (by simp) ?_
                refine AllReadyH.cons (o := _) rfl (fun K hK => ?_) (AllReadyH.nil)
                go_simp
                have hB0 : W1.heap.size ≤ waH.heap.size := bel.size
                go_at_call 22; refine (make_n y T n _ (ht.below bel) wf (by omega) kk B HB.out hA hG HAG.out.1 HAG.out.2).mono ?_
                rintro e w3 ⟨z, rfl, ⟨gl, xs, ow⟩, b3⟩
                have hXc : gx < waH.heap.size ∨ w3.heap.size ≤ gx := Or.inl LX.lt
                have LX := LX.below b3
                have hHc : gh < waH.heap.size ∨ w3.heap.size ≤ gh := Or.inl LH.lt
                have LH := LH.below b3
                have bel := bel_call bel (Nat.le_refl _) b3
                have M : Kept waH.heap.size w3 w3 := Kept.refl _ _
                refine hK.out _ _ bel (fun hHeld => ?_)
                clear hK K
                try simp only [Act.put, List.getElem_toArray, List.getElem_cons_succ, List.getElem_cons_zero, List.setIfInBounds_toArray, List.set_cons_zero, List.set_cons_succ]
                refine wpAnyH_take (i := 9) (oi := _) (v := ?_) rfl (by kernel_rfl) (by kernel_rfl) (by kernel_rfl) (fun _ _ _ h => h) (Or.inl ⟨by rfl, ?_⟩) hHeld ?_
                rotate_left
                · intro w' hSw
                  (go_simp <;> with_reducible rfl)
                try simp only [Act.put, List.getElem_toArray, List.getElem_cons_succ, List.getElem_cons_zero, List.setIfInBounds_toArray, List.set_cons_zero, List.set_cons_succ]
                refine wpAnyH_take (i := 10) (oi := _) (v := ?_) rfl (by kernel_rfl) (by kernel_rfl) (by kernel_rfl) (fun _ _ _ h => h) (Or.inl ⟨by rfl, ?_⟩) hHeld ?_
                rotate_left
                · intro w' hSw
                  (go_simp <;> with_reducible rfl)
                try simp only [Act.put, List.getElem_toArray, List.getElem_cons_succ, List.getElem_cons_zero, List.setIfInBounds_toArray, List.set_cons_zero, List.set_cons_succ]
                refine wpAnyH_take (i := 11) (oi := _) (v := ?_) rfl (by kernel_rfl) (by kernel_rfl) (by kernel_rfl) (fun _ _ _ h => h) (Or.inl ⟨by rfl, ?_⟩) hHeld ?_
                rotate_left
                · intro w' hSw
                  (go_simp <;> with_reducible rfl)
                try simp only [Act.put, List.getElem_toArray, List.getElem_cons_succ, List.getElem_cons_zero, List.setIfInBounds_toArray, List.set_cons_zero, List.set_cons_succ]
                refine wpAnyH_take (i := 12) (oi := _) (v := ?_) rfl (by kernel_rfl) (by kernel_rfl) (by kernel_rfl) (fun _ _ _ h => h) (Or.inl ⟨by rfl, ?_⟩) hHeld ?_
                rotate_left
                · intro w' hSw
                  (go_simp <;> with_reducible rfl)
                try simp only [Act.put, List.getElem_toArray, List.getElem_cons_succ, List.getElem_cons_zero, List.setIfInBounds_toArray, List.set_cons_zero, List.set_cons_succ]
                refine wpAnyH_ready (rs := [15]) (by kernel_rfl) (by simp) ?_
                refine AllReadyH.cons (o := _) rfl (fun K hK => ?_) (AllReadyH.nil)
                have hne : gx ≠ gh := LX.ne LH (by decide)
                refine step_stV (E := eTb) rfl 30 _ _ rfl size30 gx _ LX rfl z rfl rfl ?_
                intro wsX LX2 k9
                have LX := LX2
                clear LX2
                have LH := LH.kp k9 hne.symm
                have M := M.kp k9 hXc
                have bel := bel_kp bel k9 hX0 bel.size
                refine hK.out _ _ bel (fun hHeld => ?_)
                clear hK K
                clear k9
                try simp only [Act.put, List.getElem_toArray, List.getElem_cons_succ, List.getElem_cons_zero]
                refine wpAnyH_ready (rs := [16]) (by kernel_rfl) (by simp) ?_
                refine AllReadyH.cons (o := _) rfl (fun K hK => ?_) (AllReadyH.nil)
                refine step_stV (E := eH) rfl 38 _ _ rfl size38 gh _ LH rfl (hA, hG) rfl rfl ?_
                intro wsH LH2 k9
                have LH := LH2
                clear LH2
                have LX := LX.kp k9 hne
                have M := M.kp k9 hHc
                have bel := bel_kp bel k9 hH0 bel.size
                refine hK.out _ _ bel (fun hHeld => ?_)
                clear hK K
                clear k9
                try simp only [Act.put, List.getElem_toArray, List.getElem_cons_succ, List.getElem_cons_zero]
                refine wpAnyH_take (i := 17) (oi := _) (v := ?_) rfl (by kernel_rfl) (by kernel_rfl) (by kernel_rfl) (fun _ _ _ h => h) (Or.inl ⟨by rfl, ?_⟩) hHeld ?_
                rotate_left
                · intro w' hSw
                  (go_simp <;> with_reducible rfl)
                try simp only [Act.put, List.getElem_toArray, List.getElem_cons_succ, List.getElem_cons_zero, List.setIfInBounds_toArray, List.set_cons_zero, List.set_cons_succ]
                refine wpAnyH_done (by kernel_rfl) ?_ _
                go_wp2_with fail
                go_meet
                case rel => exact ⟨gx, gh, z, rfl, rfl, rfl, LX, ow.kept M, bel⟩
            · go_simp
              have ba := bel_self wd (.cells #[.int .i64 0, .int .i64 0] 38)
              have LH : Lv (wd.alloc (.cells #[.int .i64 0, .int .i64 0] 38)) wd.heap.size #[.int .i64 0, .int .i64 0] 38 := Lv.new _ _ _
              have hH0 : W1.heap.size ≤ wd.heap.size := bel.size
              have bel := bel_call bel (Nat.le_refl _) ba
              refine hK.out _ _ bel (fun hHeld => ?_)
              clear hK K
              obtain ⟨gh, hg⟩ : ∃ g, g = wd.heap.size := ⟨_, rfl⟩
              rw [← hg] at LH hH0
              try simp only [← hg]
              clear hg ba
              generalize wd.alloc (.cells #[.int .i64 0, .int .i64 0] 38) = waH at *
              try simp only [Act.put, List.getElem_toArray, List.getElem_cons_succ, List.getElem_cons_zero, List.setIfInBounds_toArray, List.set_cons_zero, List.set_cons_succ]
              refine wpAnyH_ready (rs := [8, 13]) (by kernel_rfl) (by simp) ?_
              refine AllReadyH.cons (o := _) rfl (fun K hK => ?_) (AllReadyH.cons (o := _) rfl (fun K hK => ?_) (AllReadyH.nil))
              · go_simp
                have hB0 : W1.heap.size ≤ waH.heap.size := bel.size
                go_at_call 22; refine (make_n y T n _ (ht.below bel) wf (by omega) kk B HB.out hA hG HAG.out.1 HAG.out.2).mono ?_
                rintro e w3 ⟨z, rfl, ⟨gl, xs, ow⟩, b3⟩
                have hHc : gh < waH.heap.size ∨ w3.heap.size ≤ gh := Or.inl LH.lt
                have LH := LH.below b3
                have bel := bel_call bel (Nat.le_refl _) b3
                have M : Kept waH.heap.size w3 w3 := Kept.refl _ _
                refine hK.out _ _ bel (fun hHeld => ?_)
                clear hK K
                try simp only [Act.put, List.getElem_toArray, List.getElem_cons_succ, List.getElem_cons_zero, List.setIfInBounds_toArray, List.set_cons_zero, List.set_cons_succ]
                refine wpAnyH_take (i := 9) (oi := _) (v := ?_) rfl (by kernel_rfl) (by kernel_rfl) (by kernel_rfl) (fun _ _ _ h => h) (Or.inl ⟨by rfl, ?_⟩) hHeld ?_
                rotate_left
                · intro w' hSw
                  (go_simp <;> with_reducible rfl)
                try simp only [Act.put, List.getElem_toArray, List.getElem_cons_succ, List.getElem_cons_zero, List.setIfInBounds_toArray, List.set_cons_zero, List.set_cons_succ]
                refine wpAnyH_take (i := 10) (oi := _) (v := ?_) rfl (by kernel_rfl) (by kernel_rfl) (by kernel_rfl) (fun _ _ _ h => h) (Or.inl ⟨by rfl, ?_⟩) hHeld ?_
                rotate_left
                · intro w' hSw
                  (go_simp <;> with_reducible rfl)
                try simp only [Act.put, List.getElem_toArray, List.getElem_cons_succ, List.getElem_cons_zero, List.setIfInBounds_toArray, List.set_cons_zero, List.set_cons_succ]
                refine wpAnyH_take (i := 11) (oi := _) (v := ?_) rfl (by kernel_rfl) (by kernel_rfl) (by kernel_rfl) (fun _ _ _ h => h) (Or.inl ⟨by rfl, ?_⟩) hHeld ?_
                rotate_left
                · intro w' hSw
                  (go_simp <;> with_reducible rfl)
                try simp only [Act.put, List.getElem_toArray, List.getElem_cons_succ, List.getElem_cons_zero, List.setIfInBounds_toArray, List.set_cons_zero, List.set_cons_succ]
                refine wpAnyH_take (i := 12) (oi := _) (v := ?_) rfl (by kernel_rfl) (by kernel_rfl) (by kernel_rfl) (fun _ _ _ h => h) (Or.inl ⟨by rfl, ?_⟩) hHeld ?_
                rotate_left
                · intro w' hSw
                  (go_simp <;> with_reducible rfl)
                try simp only [Act.put, List.getElem_toArray, List.getElem_cons_succ, List.getElem_cons_zero, List.setIfInBounds_toArray, List.set_cons_zero, List.set_cons_succ]
                refine wpAnyH_ready (rs := [13]) (by kernel_rfl) (by simp) ?_
                refine AllReadyH.cons (o := _) rfl (fun K hK => ?_) (AllReadyH.nil)
                go_simp
                have ba := bel_self w3 (.cells #[.slice none 0 0, .slice none 0 0, .slice none 0 0] 30)
                have LX : Lv (w3.alloc (.cells #[.slice none 0 0, .slice none 0 0, .slice none 0 0] 30)) w3.heap.size #[.slice none 0 0, .slice none 0 0, .slice none 0 0] 30 := Lv.new _ _ _
                have LH := LH.below ba
                have hms := M.size
                have M := M.below ba
                have hX0 : W1.heap.size ≤ w3.heap.size := bel.size
                have bel := bel_call bel (Nat.le_refl _) ba
                refine hK.out _ _ bel (fun hHeld => ?_)
                clear hK K
                obtain ⟨gx, hg⟩ : ∃ g, g = w3.heap.size := ⟨_, rfl⟩
                have hXc : gx < waH.heap.size ∨ w3.heap.size ≤ gx := Or.inr (by rw [hg]; exact hms)
                clear hms
                rw [← hg] at LX hX0
                try simp only [← hg]
                clear hg ba
                generalize w3.alloc (.cells #[.slice none 0 0, .slice none 0 0, .slice none 0 0] 30) = waX at *
                try simp only [Act.put, List.getElem_toArray, List.getElem_cons_succ, List.getElem_cons_zero, List.setIfInBounds_toArray, List.set_cons_zero, List.set_cons_succ]
                refine wpAnyH_ready (rs := [15]) (by kernel_rfl) (by simp) ?_
                refine AllReadyH.cons (o := _) rfl (fun K hK => ?_) (AllReadyH.nil)
                have hne : gx ≠ gh := LX.ne LH (by decide)
                refine step_stV (E := eTb) rfl 30 _ _ rfl size30 gx _ LX rfl z rfl rfl ?_
                intro wsX LX2 k9
                have LX := LX2
                clear LX2
                have LH := LH.kp k9 hne.symm
                have M := M.kp k9 hXc
                have bel := bel_kp bel k9 hX0 bel.size
                refine hK.out _ _ bel (fun hHeld => ?_)
                clear hK K
                clear k9
                try simp only [Act.put, List.getElem_toArray, List.getElem_cons_succ, List.getElem_cons_zero]
                refine wpAnyH_ready (rs := [16]) (by kernel_rfl) (by simp) ?_
                refine AllReadyH.cons (o := _) rfl (fun K hK => ?_) (AllReadyH.nil)
                refine step_stV (E := eH) rfl 38 _ _ rfl size38 gh _ LH rfl (hA, hG) rfl rfl ?_
                intro wsH LH2 k9
                have LH := LH2
                clear LH2
                have LX := LX.kp k9 hne
                have M := M.kp k9 hHc
                have bel := bel_kp bel k9 hH0 bel.size
                refine hK.out _ _ bel (fun hHeld => ?_)
                clear hK K
                clear k9
                try simp only [Act.put, List.getElem_toArray, List.getElem_cons_succ, List.getElem_cons_zero]
                refine wpAnyH_take (i := 17) (oi := _) (v := ?_) rfl (by kernel_rfl) (by kernel_rfl) (by kernel_rfl) (fun _ _ _ h => h) (Or.inl ⟨by rfl, ?_⟩) hHeld ?_
                rotate_left
                · intro w' hSw
                  (go_simp <;> with_reducible rfl)
                try simp only [Act.put, List.getElem_toArray, List.getElem_cons_succ, List.getElem_cons_zero, List.setIfInBounds_toArray, List.set_cons_zero, List.set_cons_succ]
                refine wpAnyH_done (by kernel_rfl) ?_ _
                go_wp2_with fail
                go_meet
                case rel => exact ⟨gx, gh, z, rfl, rfl, rfl, LX, ow.kept M, bel⟩
              · go_simp
                have ba := bel_self waH (.cells #[.slice none 0 0, .slice none 0 0, .slice none 0 0] 30)
                have LX : Lv (waH.alloc (.cells #[.slice none 0 0, .slice none 0 0, .slice none 0 0] 30)) waH.heap.size #[.slice none 0 0, .slice none 0 0, .slice none 0 0] 30 := Lv.new _ _ _
                have LH := LH.below ba
                have hX0 : W1.heap.size ≤ waH.heap.size := bel.size
                have bel := bel_call bel (Nat.le_refl _) ba
                refine hK.out _ _ bel (fun hHeld => ?_)
                clear hK K
                obtain ⟨gx, hg⟩ : ∃ g, g = waH.heap.size := ⟨_, rfl⟩
                rw [← hg] at LX hX0
                try simp only [← hg]
                clear hg ba
                generalize waH.alloc (.cells #[.slice none 0 0, .slice none 0 0, .slice none 0 0] 30) = waX at *
                try simp only [Act.put, List.getElem_toArray, List.getElem_cons_succ, List.getElem_cons_zero, List.setIfInBounds_toArray, List.set_cons_zero, List.set_cons_succ]
                refine wpAnyH_ready (rs := [8]) (by kernel_rfl) (by simp) ?_
                refine AllReadyH.cons (o := _) rfl (fun K hK => ?_) (AllReadyH.nil)
                go_simp
                have hB0 : W1.heap.size ≤ waX.heap.size := bel.size
                go_at_call 22; refine (make_n y T n _ (ht.below bel) wf (by omega) kk B HB.out hA hG HAG.out.1 HAG.out.2).mono ?_
                rintro e w3 ⟨z, rfl, ⟨gl, xs, ow⟩, b3⟩
                have hXc : gx < waX.heap.size ∨ w3.heap.size ≤ gx := Or.inl LX.lt
                have LX := LX.below b3
                have hHc : gh < waX.heap.size ∨ w3.heap.size ≤ gh := Or.inl LH.lt
                have LH := LH.below b3
                have bel := bel_call bel (Nat.le_refl _) b3
                have M : Kept waX.heap.size w3 w3 := Kept.refl _ _
                refine hK.out _ _ bel (fun hHeld => ?_)
                clear hK K
                try simp only [Act.put, List.getElem_toArray, List.getElem_cons_succ, List.getElem_cons_zero, List.setIfInBounds_toArray, List.set_cons_zero, List.set_cons_succ]
                refine wpAnyH_take (i := 9) (oi := _) (v := ?_) rfl (by kernel_rfl) (by kernel_rfl) (by kernel_rfl) (fun _ _ _ h => h) (Or.inl ⟨by rfl, ?_⟩) hHeld ?_
                rotate_left
                · intro w' hSw
                  (go_simp <;> with_reducible rfl)
                try simp only [Act.put, List.getElem_toArray, List.getElem_cons_succ, List.getElem_cons_zero, List.setIfInBounds_toArray, List.set_cons_zero, List.set_cons_succ]
                refine wpAnyH_take (i := 10) (oi := _) (v := ?_) rfl (by kernel_rfl) (by kernel_rfl) (by kernel_rfl) (fun _ _ _ h => h) (Or.inl ⟨by rfl, ?_⟩) hHeld ?_
                rotate_left
                · intro w' hSw
                  (go_simp <;> with_reducible rfl)
                try simp only [Act.put, List.getElem_toArray, List.getElem_cons_succ, List.getElem_cons_zero, List.setIfInBounds_toArray, List.set_cons_zero, List.set_cons_succ]
                refine wpAnyH_take (i := 11) (oi := _) (v := ?_) rfl (by kernel_rfl) (by kernel_rfl) (by kernel_rfl) (fun _ _ _ h => h) (Or.inl ⟨by rfl, ?_⟩) hHeld ?_
                rotate_left
                · intro w' hSw
                  (go_simp <;> with_reducible rfl)
                try simp only [Act.put, List.getElem_toArray, List.getElem_cons_succ, List.getElem_cons_zero, List.setIfInBounds_toArray, List.set_cons_zero, List.set_cons_succ]
                refine wpAnyH_take (i := 12) (oi := _) (v := ?_) rfl (by kernel_rfl) (by kernel_rfl) (by kernel_rfl) (fun _ _ _ h => h) (Or.inl ⟨by rfl, ?_⟩) hHeld ?_
                rotate_left
                · intro w' hSw
                  (go_simp <;> with_reducible rfl)
                try simp only [Act.put, List.getElem_toArray, List.getElem_cons_succ, List.getElem_cons_zero, List.setIfInBounds_toArray, List.set_cons_zero, List.set_cons_succ]
                refine wpAnyH_ready (rs := [15]) (by kernel_rfl) (by simp) ?_
                refine AllReadyH.cons (o := _) rfl (fun K hK => ?_) (AllReadyH.nil)
                have hne : gx ≠ gh := LX.ne LH (by decide)
                refine step_stV (E := eTb) rfl 30 _ _ rfl size30 gx _ LX rfl z rfl rfl ?_
                intro wsX LX2 k9
                have LX := LX2
                clear LX2
                have LH := LH.kp k9 hne.symm
                have M := M.kp k9 hXc
                have bel := bel_kp bel k9 hX0 bel.size
                refine hK.out _ _ bel (fun hHeld => ?_)
                clear hK K
                clear k9
                try simp only [Act.put, List.getElem_toArray, List.getElem_cons_succ, List.getElem_cons_zero]
                refine wpAnyH_ready (rs := [16]) (by kernel_rfl) (by simp) ?_
                refine AllReadyH.cons (o := _) rfl (fun K hK => ?_) (AllReadyH.nil)
                refine step_stV (E := eH) rfl 38 _ _ rfl size38 gh _ LH rfl (hA, hG) rfl rfl ?_
                intro wsH LH2 k9
                have LH := LH2
                clear LH2
                have LX := LX.kp k9 hne
                have M := M.kp k9 hHc
                have bel := bel_kp bel k9 hH0 bel.size
                refine hK.out _ _ bel (fun hHeld => ?_)
                clear hK K
                clear k9
                try simp only [Act.put, List.getElem_toArray, List.getElem_cons_succ, List.getElem_cons_zero]
                refine wpAnyH_take (i := 17) (oi := _) (v := ?_) rfl (by kernel_rfl) (by kernel_rfl) (by kernel_rfl) (fun _ _ _ h => h) (Or.inl ⟨by rfl, ?_⟩) hHeld ?_
                rotate_left
                · intro w' hSw
                  (go_simp <;> with_reducible rfl)
                try simp only [Act.put, List.getElem_toArray, List.getElem_cons_succ, List.getElem_cons_zero, List.setIfInBounds_toArray, List.set_cons_zero, List.set_cons_succ]
                refine wpAnyH_done (by kernel_rfl) ?_ _
                go_wp2_with fail
                go_meet
                case rel => exact ⟨gx, gh, z, rfl, rfl, rfl, LX, ow.kept M, bel⟩
          case rest =>
            obtain ⟨gx, gh, z, rfl, rfl, rfl, LX, tz, bz⟩ := hcut
            have hVz := hV.below bz
            obtain ⟨l0, l1, l2⟩ := Vw.at (show Vw wc gx z 30 from LX)
            clear f0
            go_wp2_with (refine wpList_stV (E := eTb) rfl 30 (.tmp 7) (.tmp 50) rfl size30 g _ hVz rfl z rfl rfl ?_; intro w9 L9 k9)
            have t9 := tz.kpS hVz k9
            have B8 := bel_call hbw (Nat.le_refl _) bz
            have B9 := bel_kp B8 k9 hgw B8.size
            go_roundw
            case rel => exact ⟨n + 1, z, mkR T kk, by omega, by go_num, hwf2, HNT.out, L9, t9, B9⟩
            case measure => simp [intOf]; omega
      · have hnn : n = ln := by omega
        subst hnn
        clear hlt
        go_wp2
        go_loopw [12] (fun i wx => ∃ (j : Nat) (y : Tw) (T : Tb), j ≤ 12 ∧ i = .int .i64 j ∧ Wf n T ∧ Pu j T ∧ Vw wx g y 30 ∧ Tr wx y T ∧ Below w.heap.size w wx) (fun i _ => 12 - (intOf i).toNat)
        case atStart => exact ⟨0, y, T, Nat.zero_le _, rfl, wf, pu_zero hNt, hV, ht, hbw⟩
        case round =>
          clear hV ht hbw wf hNt
          obtain ⟨j, y, T, hj, rfl, wf, hPu, hV, ht, hbw⟩ := hrel
          obtain ⟨ygp, ygc, yip, yic, ytp, ytc⟩ := y
          obtain ⟨c0, c1, c2⟩ := hV.at
          by_cases hjl : j < 12
          · have hjI : (j : Int) < 12 := by omega
            have hjZ : (0 : Int) ≤ (j : Int) := by omega
            have dj : decide ((j : Int) < 12) = true := by simp; omega
            have hPu2 : Pu (j + 1) (ptc T j) := pu_step wf hPu
            have hwf2 : Wf n (ptc T j) := ptc_wf wf j
            go_wp2_with (first
              | (refine wpList_stV (E := eTb) rfl 30 (.tmp 7) (.tmp 73) rfl size30 g _ (hV.below pB) rfl pz rfl rfl ?_; intro w9 L9 k9)
              | (go_at_call 14; have ps : Below wr.heap.size wr ((wr.alloc (.cells #[.int .i64 (j : Int)] 2)).alloc (.cells #[.int .i64 ((j : Int) + 1)] 3)) := (bel_self _ _).alloc (by simp) _; refine (put_any ⟨ygp, ygc, yip, yic, ytp, ytc⟩ T _ (ht.below ps) (j : Int) (⟨0, 0, 0, 3, 2, some ⟨wr.heap.size, 0, none⟩, 1, 1, some ⟨wr.heap.size + 1, 0, none⟩, 1, 1, 5, none, 0, 0, 0⟩ : Tc) ⟨0, 0, 0, 3, 2, [(j : Int)], [(j : Int) + 1], 5, [], 0⟩ (ok_put wr j)).mono ?_; rintro e pw ⟨pz, rfl, pt, pb⟩; have pB := bel_call ps (Nat.le_refl _) pb))
            have t9 : Tr w9 pz (ptc T j) := pt.kpS (hV.below pB) k9
            have B8 := bel_call hbw (Nat.le_refl _) pB
            have B9 := bel_kp B8 k9 hgw B8.size
            go_roundw
            case rel => exact ⟨j + 1, pz, ptc T j, by omega, by go_num, hwf2, hPu2, L9, t9, B9⟩
            case measure => simp [intOf]; omega
          · have hj12 : j = 12 := by omega
            subst hj12
            go_wp2_with (go_at_call 27; refine (table_any ⟨ygp, ygc, yip, yic, ytp, ytc⟩ T _ ht).mono ?_; rintro e w4 ⟨z1, rfl, t1, b4⟩)
            have s4 := bel_self w4 (.cells #[.slice z1.gp 12 z1.gc, .slice z1.ip 12 z1.ic, .slice z1.tp 12 z1.tc] 35)
            have hVz : Vw (w4.alloc (.cells #[.slice z1.gp 12 z1.gc, .slice z1.ip 12 z1.ic, .slice z1.tp 12 z1.tc] 35)) w4.heap.size z1 35 := Vw.new w4 z1 35
            have hTz := t1.below s4
            have b44 := bel_call b4 (Nat.le_refl _) s4
            have hV5 := hV.below b44
            have ht5 := ht.below b44
            have hB5 := bel_call hbw (Nat.le_refl _) b44
            have hgz : g ≠ w4.heap.size := Lv.ne hV5 hVz (by decide)
            obtain ⟨gz, hgze⟩ : ∃ gz, gz = w4.heap.size := ⟨_, rfl⟩
            rw [← hgze] at hVz hgz
            simp only [← hgze]
            generalize w4.alloc (.cells #[.slice z1.gp 12 z1.gc, .slice z1.ip 12 z1.ic, .slice z1.tp 12 z1.tc] 35) = W5 at *
            clear hgze s4 t1 b4 b44 hV ht hbw c0 c1 c2
            obtain ⟨P, hPT⟩ : ∃ P, P = T := ⟨_, rfl⟩
            have hPP : Pu 12 P := by rw [hPT]; exact hPu
            have hWP : Wf n P := by rw [hPT]; exact wf
            rw [← hPT] at hTz
            have hM0 : Mx (fun i => tn.testBit i) P 0 T := by rw [← hPT]; exact Mx.zero _ _
            clear hPT hPu
            go_loopw [14] (fun i wx => ∃ (j : Nat) (y : Tw) (T : Tb), j ≤ 12 ∧ i = .int .i64 j ∧ Wf n T ∧ Mx (fun i => tn.testBit i) P j T ∧ Vw wx g y 30 ∧ Tr wx y T ∧ Vw wx gz z1 35 ∧ Tr wx z1 P ∧ Below w.heap.size w wx) (fun i _ => 12 - (intOf i).toNat)
            case atStart => exact ⟨0, ⟨ygp, ygc, yip, yic, ytp, ytc⟩, T, Nat.zero_le _, rfl, wf, hM0, hV5, ht5, hVz, hTz, hB5⟩
            case round =>
              clear hV5 ht5 hVz hTz hB5 hM0 wf
              obtain ⟨j, y, T, hj, rfl, wf, hM, hV, ht, hVz, hTz, hbw⟩ := hrel
              obtain ⟨ygp, ygc, yip, yic, ytp, ytc⟩ := y
              obtain ⟨c0, c1, c2⟩ := hV.at
              by_cases hjl : j < 12
              · have hjI : (j : Int) < 12 := by omega
                have hjZ : (0 : Int) ≤ (j : Int) := by omega
                have hjN : ¬ (j : Int) < 0 := by omega
                have dj : decide ((j : Int) < 12) = true := by simp; omega
                have xt := bit_one (m := tn) j ht9
                have xp := bit_one (m := pn) j hp9
                cases hbt : tn.testBit j with
                | true =>
                  have hM2 := hM.turn wf hbt
                  have hwf2 : Wf n (tnR T j) := tnR_wf wf _
                  rw [hbt] at xt
                  obtain ⟨Bt, hBt⟩ : ∃ Bt, isThere T.T (j : Int) = Bt := ⟨_, rfl⟩
                  have HBT : Hid (isThere T.T (j : Int) = Bt) := hBt
                  clear hBt
                  cases hbp : pn.testBit j with
                  | true =>
                    have hM3 := hM2.put (m := j) hwf2 hPP
                    have hwf3 : Wf n (ptc (tnR T j) j) := ptc_wf hwf2 j
                    rw [hbp] at xp
                    clear hbt hbp
                    go_wp2_with (first
                      | (refine wpList_stV (E := eTb) rfl 30 (.tmp 7) (.tmp 107) rfl size30 g _ (V9.below pB) rfl pz rfl rfl ?_; intro w10 L10 k10)
                      | (go_at_call 14; have ps : Below w9.heap.size w9 ((w9.alloc (.cells #[.int .i64 (j : Int)] 2)).alloc (.cells #[.int .i64 ((j : Int) + 1)] 3)) := (bel_self _ _).alloc (by simp) _; refine (put_any qz (tnR T j) _ (t9.below ps) (j : Int) (⟨0, 0, 0, 3, 2, some ⟨w9.heap.size, 0, none⟩, 1, 1, some ⟨w9.heap.size + 1, 0, none⟩, 1, 1, 5, none, 0, 0, 0⟩ : Tc) ⟨0, 0, 0, 3, 2, [(j : Int)], [(j : Int) + 1], 5, [], 0⟩ (ok_put w9 j)).mono ?_; rintro e pw ⟨pz, rfl, pt, pb⟩; have pB := bel_call ps (Nat.le_refl _) pb)
                      | (refine wpList_stV (E := eTb) rfl 30 (.tmp 7) (.tmp 89) rfl size30 g _ (hV.below qb) rfl qz rfl rfl ?_; intro w9 L9 k9; have V9 : Vw w9 g qz 30 := L9; have t9 := qt.kpS (hV.below qb) k9; clear c0 c1 c2; obtain ⟨c0, c1, c2⟩ := V9.at)
                      | (go_at_call 17; refine (turnt_any ⟨ygp, ygc, yip, yic, ytp, ytc⟩ T _ ht (j : Int) Bt HBT.out).mono ?_; rintro e qw ⟨qz, rfl, qt, qb⟩))
                    have B8 := bel_call hbw (Nat.le_refl _) qb
                    have B9 := bel_kp B8 k9 hgw B8.size
                    have B10 := bel_call B9 (Nat.le_refl _) pB
                    have t10 : Tr w10 pz (ptc (tnR T j) j) := pt.kpS (V9.below pB) k10
                    have Z9 := (hVz.below qb).kp k9 hgz.symm
                    have Z10 := (Z9.below pB).kp k10 hgz.symm
                    have T9 := (hTz.below qb).kpS (hV.below qb) k9
                    have T10 := (T9.below pB).kpS (V9.below pB) k10
                    go_roundw
                    case rel => exact ⟨j + 1, pz, ptc (tnR T j) j, by omega, by go_num, hwf3, hM3, L10, t10, Z10, T10, bel_kp B10 k10 hgw B10.size⟩
                    case measure => simp [intOf]; omega
                  | false =>
                    rw [hbp] at xp
                    clear hbt hbp
                    go_wp2_with (first
                      | (refine wpList_stV (E := eTb) rfl 30 (.tmp 7) (.tmp 89) rfl size30 g _ (hV.below qb) rfl qz rfl rfl ?_; intro w9 L9 k9; have V9 : Vw w9 g qz 30 := L9; have t9 := qt.kpS (hV.below qb) k9; clear c0 c1 c2; obtain ⟨c0, c1, c2⟩ := V9.at)
                      | (go_at_call 17; refine (turnt_any ⟨ygp, ygc, yip, yic, ytp, ytc⟩ T _ ht (j : Int) Bt HBT.out).mono ?_; rintro e qw ⟨qz, rfl, qt, qb⟩))
                    have B8 := bel_call hbw (Nat.le_refl _) qb
                    have Z9 := (hVz.below qb).kp k9 hgz.symm
                    have T9 := (hTz.below qb).kpS (hV.below qb) k9
                    go_roundw
                    case rel => exact ⟨j + 1, qz, tnR T j, by omega, by go_num, hwf2, hM2, L9, t9, Z9, T9, bel_kp B8 k9 hgw B8.size⟩
                    case measure => simp [intOf]; omega
                | false =>
                  have hM2 := hM.skip hbt
                  rw [hbt] at xt
                  cases hbp : pn.testBit j with
                  | true =>
                    have hM3 := hM2.put (m := j) wf hPP
                    have hwf3 : Wf n (ptc T j) := ptc_wf wf j
                    rw [hbp] at xp
                    clear hbt hbp
                    go_wp2_with (first
                      | (refine wpList_stV (E := eTb) rfl 30 (.tmp 7) (.tmp 107) rfl size30 g _ (hV.below pB) rfl pz rfl rfl ?_; intro w10 L10 k10)
                      | (go_at_call 14; have ps : Below wr.heap.size wr ((wr.alloc (.cells #[.int .i64 (j : Int)] 2)).alloc (.cells #[.int .i64 ((j : Int) + 1)] 3)) := (bel_self _ _).alloc (by simp) _; refine (put_any ⟨ygp, ygc, yip, yic, ytp, ytc⟩ T _ (ht.below ps) (j : Int) (⟨0, 0, 0, 3, 2, some ⟨wr.heap.size, 0, none⟩, 1, 1, some ⟨wr.heap.size + 1, 0, none⟩, 1, 1, 5, none, 0, 0, 0⟩ : Tc) ⟨0, 0, 0, 3, 2, [(j : Int)], [(j : Int) + 1], 5, [], 0⟩ (ok_put wr j)).mono ?_; rintro e pw ⟨pz, rfl, pt, pb⟩; have pB := bel_call ps (Nat.le_refl _) pb))
                    have B8 := bel_call hbw (Nat.le_refl _) pB
                    have t10 : Tr w10 pz (ptc T j) := pt.kpS (hV.below pB) k10
                    have Z10 := (hVz.below pB).kp k10 hgz.symm
                    have T10 := (hTz.below pB).kpS (hV.below pB) k10
                    go_roundw
                    case rel => exact ⟨j + 1, pz, ptc T j, by omega, by go_num, hwf3, hM3, L10, t10, Z10, T10, bel_kp B8 k10 hgw B8.size⟩
                    case measure => simp [intOf]; omega
                  | false =>
                    rw [hbp] at xp
                    clear hbt hbp
                    go_wp2
                    go_roundw
                    case rel => exact ⟨j + 1, ⟨ygp, ygc, yip, yic, ytp, ytc⟩, T, by omega, by go_num, wf, hM2, hV, ht, hVz, hTz, hbw⟩
                    case measure => simp [intOf]; omega
              · have hj12 : j = 12 := by omega
                subst hj12
                obtain ⟨m, hm⟩ : ∃ m, (audP T.T 12).length = m := ⟨_, rfl⟩
                have HM : Hid ((audP T.T 12).length = m) := hm
                clear hm
                go_wp2_with (first
                  | (go_at_call 19; refine (audit_any ⟨ygp, ygc, yip, yic, ytp, ytc⟩ T _ ht m HM.out).mono ?_; rintro e w6 ⟨u3, pa, ca, pb, cb, rfl, t6, ra, rb, b6⟩; have s6 := bel_self w6 (.cells #[.slice u3.gp 12 u3.gc, .slice u3.ip 12 u3.ic, .slice u3.tp 12 u3.tc] 30); have V6 := Vw.new w6 u3 30; have B6 := bel_call b6 (Nat.le_refl _) s6; clear c0 c1 c2; obtain ⟨c0, c1, c2⟩ := V6.at)
                  | (go_at_call 27; refine (table_any u3 (adR T) _ (t6.below s6)).mono ?_; rintro e w7 ⟨zn, rfl, t7, b7⟩; have s7 := bel_self w7 (.cells #[.slice zn.gp 12 zn.gc, .slice zn.ip 12 zn.ic, .slice zn.tp 12 zn.tc] 35); have V7 := Vw.new w7 zn 35; have B7 := bel_call b7 (Nat.le_refl _) s7; clear c0 c1 c2; obtain ⟨c0, c1, c2⟩ := V7.at; have Z7 := (hVz.below B6).below B7; obtain ⟨d0, d1, d2⟩ := Z7.at))
                have V7u := V6.below B7
                have t7u := (t6.below s6).below B7
                have t7n := t7.below s7
                have T7 := (hTz.below B6).below B7
                have ra7 := (ra.below s6).below B7
                have rb7 := (rb.below s6).below B7
                have hB7 := bel_call (bel_call hbw (Nat.le_refl _) B6) (Nat.le_refl _) B7
                obtain ⟨gu, hgu⟩ : ∃ gu, gu = w6.heap.size := ⟨_, rfl⟩
                obtain ⟨gn, hgn⟩ : ∃ gn, gn = w7.heap.size := ⟨_, rfl⟩
                rw [← hgu] at V7u
                rw [← hgn] at V7
                simp only [← hgu, ← hgn]
                generalize w7.alloc (.cells #[.slice zn.gp 12 zn.gc, .slice zn.ip 12 zn.ic, .slice zn.tp 12 zn.tc] 35) = W7 at *
                clear hgu hgn s6 s7 b6 b7 B6 B7 t6 t7 ra rb V6 c0 c1 c2 d0 d1 d2 hV ht hVz hTz hbw
                have hm12 : m ≤ 12 := by rw [← HM.out]; exact audP_le T.T 12
                have HLW : Hid ((audW T.T 12).length = m) := by show _ = _; rw [audW_len]; exact HM.out
                obtain ⟨ss, rss, lss, hss⟩ := rb7
                have HSL : Hid (ss.length = m) := by show _ = _; rw [lss]; exact HLW.out
                clear lss
                obtain ⟨zgp, zgc, zip, zic, ztp, ztc⟩ := z1
                obtain ⟨ngp, ngc, nip, nic, ntp, ntc⟩ := zn
                go_loopw [19, 20] (fun c i wx => ∃ (j cn : Nat), j ≤ 12 ∧ i = .int .i64 j ∧ c = .int .i64 cn ∧ (audP T.T j).length = cn ∧ Below W7.heap.size W7 wx) (fun _ i _ => 12 - (intOf i).toNat)
                case atStart => exact ⟨0, 0, Nat.zero_le _, rfl, rfl, rfl, Below.refl _ _⟩
                case round =>
                  obtain ⟨j, cn, hj, rfl, rfl, hcn, hbx⟩ := hrel
                  have HC : Hid ((audP T.T j).length = cn) := hcn
                  have hc12 : cn ≤ 12 := by have := audP_le T.T j; omega
                  clear hcn
                  have hVz := Z7.below hbx
                  have hVn := V7.below hbx
                  obtain ⟨d0, d1, d2⟩ := hVz.at
                  obtain ⟨c0, c1, c2⟩ := hVn.at
                  by_cases hjl : j < 12
                  · have hjI : (j : Int) < 12 := by omega
                    have hjZ : (0 : Int) ≤ (j : Int) := by omega
                    have hjN : ¬ (j : Int) < 0 := by omega
                    have dj : decide ((j : Int) < 12) = true := by simp; omega
                    have xt := bit_one (m := tn) j ht9
                    obtain ⟨zb, zo, Xz, ez, hzb, hXz, hOz⟩ := (T7.below hbx).thing j hjl
                    obtain ⟨nb, no, Xn, en, hnb, hXn, hOn⟩ := (t7n.below hbx).thing j hjl
                    dsimp only at ez en
                    subst ez en
                    have hOk := hOz.k
                    by_cases his : tn.testBit j = true ∧ (P.T.getD j th0).k ≠ 0
                    · obtain ⟨ha, hwt, hfr⟩ := hM.is hPP hjl his.1 his.2
                      rw [his.1] at xt
                      have xk : (Xz.k == 0) = false := by rw [hOk]; simpa using his.2
                      have xk2 : decide (Xz.k = 0) = false := by rw [hOk]; simpa using his.2
                      have xn : (Xz.k != 0) = true := by rw [bne, xk]; rfl
                      have hat := audP_at 12 j hjl ha
                      have haw := audW_at 12 j hjl ha
                      rw [HC.out, HM.out] at hat
                      rw [HC.out, hwt] at haw
                      have HC2 : Hid ((audP T.T (j + 1)).length = cn + 1) := by show _ = _; rw [audP_step, HC.out, if_pos ha]
                      have hcm := hat.1
                      have hcI : (cn : Int) < (m : Int) := by omega
                      have hcZ : (0 : Int) ≤ (cn : Int) := by omega
                      have dcm : decide ((cn : Int) ≥ (m : Int)) = false := decide_eq_false (by omega)
                      have dcm2 : decide ((m : Int) ≤ (cn : Int)) = false := decide_eq_false (by omega)
                      have dcm3 : decide (m ≤ cn) = false := decide_eq_false (by omega)
                      have dcm4 : ¬ m ≤ cn := by omega
                      have dcm5 : ¬ (m : Int) ≤ (cn : Int) := by omega
                      obtain ⟨pab, pao, epa, hpab, p0⟩ := (ra7.below hbx).num cn (by rw [HM.out]; exact hcm)
                      have hp1 : (audP T.T 12)[cn]'(by rw [HM.out]; exact hcm) = (j : Int) := by
                        have h := hat.2
                        rw [List.getD_eq_getElem?_getD, List.getElem?_eq_getElem (by rw [HM.out]; exact hcm)] at h
                        exact h
                      rw [hp1] at p0
                      have hcs : cn < ss.length := by rw [HSL.out]; exact hcm
                      obtain ⟨pbb, pbo, epb, hpbb, q0⟩ := (rss.below hbx).row cn hcs
                      obtain ⟨hs1, _, hs3⟩ := hss cn hcs (by rw [HLW.out]; exact hcm)
                      have hw1 : (audW T.T 12)[cn]'(by rw [HLW.out]; exact hcm) = [(j : Int) + 1] := by
                        have h := haw
                        rw [List.getD_eq_getElem?_getD, List.getElem?_eq_getElem (by rw [HLW.out]; exact hcm)] at h
                        exact h
                      rw [hw1] at hs1 hs3
                      obtain ⟨S, hS⟩ : ∃ S, ss[cn] = S := ⟨_, rfl⟩
                      rw [hS] at q0 hs1 hs3
                      obtain ⟨sp, sn, sc⟩ := S
                      dsimp only at q0 hs1 hs3
                      obtain rfl : 1 = sn := hs1
                      obtain ⟨rb0, ro0, er, hrb0, r0⟩ := (hs3.below hbx).num 0 (by simp)
                      have r0 : wr.cell? ⟨rb0, ro0, none⟩ = some (.int .i64 ((j : Int) + 1)) := r0
                      subst epa epb er
                      rw [hfr] at hOn
                      have hnk := fresh_parts (P.T.getD j th0).k (P.T.getD j th0).a (P.T.getD j th0).g
                      have hnc := hOn.c
                      have hnh := hOn.h
                      have hnb2 := hOn.b
                      have hnl := hOn.ln
                      have hna := hOn.a.trans (hnk.2.1.trans hOz.a.symm)
                      have hng := hOn.g.trans (hnk.2.2.1.trans hOz.g.symm)
                      rw [hnk.2.2.2.1, ← hOk] at hnc
                      rw [hnk.2.2.2.2.1] at hnh
                      rw [hnk.2.2.2.2.2.2] at hnb2
                      rw [hnk.2.2.2.2.2.1] at hnl
                      have hnl : 0 = Xn.ln := hnl
                      obtain ⟨f0, f1, f2, f3, f4, f5, f6, f7, f8, f9⟩ := hXn
                      obtain ⟨g0, g1, g2, g3, g4, g5, g6, g7, g8, g9⟩ := hXz
                      rw [hna] at f1
                      rw [hng] at f2
                      rw [hnh] at f4
                      rw [← hnl] at f5
                      rw [hnb2] at f7
                      have q1 : (Xz.a == Xz.a) = true := beq_self_eq_true _
                      have q2 : (Xz.g == Xz.g) = true := beq_self_eq_true _
                      have q3 : ((j : Int) == (j : Int)) = true := beq_self_eq_true _
                      have q4 : (((j : Int) + 1) == ((j : Int) + 1)) = true := beq_self_eq_true _
                      have q5 : ((j : Int) != (j : Int)) = false := by simp
                      have q6 : (((j : Int) + 1) != ((j : Int) + 1)) = false := by simp
                      have r3 : IntKind.i64.wrap ((j : Int) + 1) = (j : Int) + 1 := by rw [IntKind.wrap_i64]; omega
                      obtain ⟨J1, hJ1⟩ : ∃ J1, (j : Int) + 1 = J1 := ⟨_, rfl⟩
                      have hw1 : wrap64 ((j : Int) + 1) = J1 := by unfold wrap64; omega
                      rw [hJ1] at r0 q4 q6
                      have r3 : IntKind.i64.wrap J1 = J1 := by rw [← hJ1]; exact r3
                      clear his ha hwt hfr hat haw hp1 hw1 hs3 hS hOn hOz hOk hnk hnh hnb2 hnl hna hng f0 f6 f8 f9 g3 g4 g5 g6 g7 g8 g9
                      have HNC : Hid (Xn.c = if Xz.k = 1 then 3 else 0) := hnc
                      clear hnc
                      by_cases hk1 : Xz.k = 1
                      · have y1 : (Xz.k == 1) = true := by simpa using hk1
                        have y2 : decide (Xz.k = 1) = true := by simpa using hk1
                        have y3 : Xn.c = 3 := by rw [HNC.out, if_pos hk1]
                        rw [y3] at f3
                        have HK : Hid (Xz.k = 1) := hk1
                        clear hk1 y3
                        as_aux_lemma =>
                          go_upto_region 35 with fail
                          try simp only [List.append]
                          obtain ⟨W1, hW1⟩ : ∃ W1, W1 = wr := ⟨_, rfl⟩
                          subst hW1
                          refine wp_region_held_drew (S := fun w' => Below W1.heap.size W1 w') (by as_aux_lemma => kernel_rfl) (Below.refl _ _).drew (fun hHeld => ?_)
                          refine wpAnyH_take (i := 0) (oi := _) (v := ?_) rfl (by as_aux_lemma => kernel_rfl) (by as_aux_lemma => kernel_rfl) (by as_aux_lemma => kernel_rfl) (fun _ _ _ h => h) (Or.inl ⟨by rfl, ?_⟩) hHeld ?_
                          rotate_left
                          · intro w' hSw
                            (go_simp <;> with_reducible rfl)
                          try simp only [Act.put, List.getElem_toArray, List.getElem_cons_zero, List.setIfInBounds_toArray, List.set_cons_zero, List.set_cons_succ]
                          refine wpAnyH_take (i := 1) (oi := _) (v := ?_) rfl (by as_aux_lemma => kernel_rfl) (by as_aux_lemma => kernel_rfl) (by as_aux_lemma => kernel_rfl) (fun _ _ _ h => h) (Or.inl ⟨by rfl, ?_⟩) hHeld ?_
                          rotate_left
                          · intro w' hSw
                            (go_simp <;> with_reducible rfl)
                          try simp only [Act.put, List.getElem_toArray, List.getElem_cons_succ, List.getElem_cons_zero, List.setIfInBounds_toArray, List.set_cons_zero, List.set_cons_succ]
                          refine wpAnyH_take (i := 2) (oi := _) (v := ?_) rfl (by as_aux_lemma => kernel_rfl) (by as_aux_lemma => kernel_rfl) (by as_aux_lemma => kernel_rfl) (fun _ _ _ h => h) (Or.inl ⟨by rfl, ?_⟩) hHeld ?_
                          rotate_left
                          · intro w' hSw
                            (go_simp <;> with_reducible rfl)
                          try simp only [Act.put, List.getElem_toArray, List.getElem_cons_succ, List.getElem_cons_zero, List.setIfInBounds_toArray, List.set_cons_zero, List.set_cons_succ]
                          refine wpAnyH_take (i := 3) (oi := _) (v := ?_) rfl (by as_aux_lemma => kernel_rfl) (by as_aux_lemma => kernel_rfl) (by as_aux_lemma => kernel_rfl) (fun _ _ _ h => h) (Or.inl ⟨by rfl, ?_⟩) hHeld ?_
                          rotate_left
                          · intro w' hSw
                            (go_simp <;> with_reducible rfl)
                          try simp only [Act.put, List.getElem_toArray, List.getElem_cons_succ, List.getElem_cons_zero, List.setIfInBounds_toArray, List.set_cons_zero, List.set_cons_succ]
                          refine wpAnyH_take (i := 4) (oi := _) (v := ?_) rfl (by as_aux_lemma => kernel_rfl) (by as_aux_lemma => kernel_rfl) (by as_aux_lemma => kernel_rfl) (fun _ _ _ h => h) (Or.inl ⟨by rfl, ?_⟩) hHeld ?_
                          rotate_left
                          · intro w' hSw
                            (go_simp <;> with_reducible rfl)
                          try simp only [Act.put, List.getElem_toArray, List.getElem_cons_succ, List.getElem_cons_zero, List.setIfInBounds_toArray, List.set_cons_zero, List.set_cons_succ]
                          refine wpAnyH_take (i := 5) (oi := _) (v := ?_) rfl (by as_aux_lemma => kernel_rfl) (by as_aux_lemma => kernel_rfl) (by as_aux_lemma => kernel_rfl) (fun _ _ _ h => h) (Or.inl ⟨by rfl, ?_⟩) hHeld ?_
                          rotate_left
                          · intro w' hSw
                            (go_simp <;> with_reducible rfl)
                          try simp only [Act.put, List.getElem_toArray, List.getElem_cons_succ, List.getElem_cons_zero, List.setIfInBounds_toArray, List.set_cons_zero, List.set_cons_succ]
                          refine wpAnyH_take (i := 6) (oi := _) (v := ?_) rfl (by as_aux_lemma => kernel_rfl) (by as_aux_lemma => kernel_rfl) (by as_aux_lemma => kernel_rfl) (fun _ _ _ h => h) (Or.inl ⟨by rfl, ?_⟩) hHeld ?_
                          rotate_left
                          · intro w' hSw
                            (go_simp <;> with_reducible rfl)
                          try simp only [Act.put, List.getElem_toArray, List.getElem_cons_succ, List.getElem_cons_zero, List.setIfInBounds_toArray, List.set_cons_zero, List.set_cons_succ]
                          refine wpAnyH_take (i := 7) (oi := _) (v := ?_) rfl (by as_aux_lemma => kernel_rfl) (by as_aux_lemma => kernel_rfl) (by as_aux_lemma => kernel_rfl) (fun _ _ _ h => h) (Or.inl ⟨by rfl, ?_⟩) hHeld ?_
                          rotate_left
                          · intro w' hSw
                            (go_simp <;> with_reducible rfl)
                          try simp only [Act.put, List.getElem_toArray, List.getElem_cons_succ, List.getElem_cons_zero, List.setIfInBounds_toArray, List.set_cons_zero, List.set_cons_succ]
                          refine wpAnyH_take (i := 8) (oi := _) (v := ?_) rfl (by as_aux_lemma => kernel_rfl) (by as_aux_lemma => kernel_rfl) (by as_aux_lemma => kernel_rfl) (fun _ _ _ h => h) (Or.inl ⟨by rfl, ?_⟩) hHeld ?_
                          rotate_left
                          · intro w' hSw
                            have p0 := cell_bel hSw hpab p0
                            have q0 := cell_bel hSw hpbb q0
                            have r0 := cell_bel hSw hrb0 r0
                            obtain ⟨c0, c1, c2⟩ := (hVn.below hSw).at
                            obtain ⟨d0, d1, d2⟩ := (hVz.below hSw).at
                            have f1 := cell_bel hSw hnb f1
                            have f2 := cell_bel hSw hnb f2
                            have f3 := cell_bel hSw hnb f3
                            have f4 := cell_bel hSw hnb f4
                            have f5 := cell_bel hSw hnb f5
                            have f7 := cell_bel hSw hnb f7
                            have g0 := cell_bel hSw hzb g0
                            have g1 := cell_bel hSw hzb g1
                            have g2 := cell_bel hSw hzb g2
                            (go_simp <;> with_reducible rfl)
                          try simp only [Act.put, List.getElem_toArray, List.getElem_cons_succ, List.getElem_cons_zero, List.setIfInBounds_toArray, List.set_cons_zero, List.set_cons_succ]
                          refine wpAnyH_take (i := 9) (oi := _) (v := ?_) rfl (by as_aux_lemma => kernel_rfl) (by as_aux_lemma => kernel_rfl) (by as_aux_lemma => kernel_rfl) (fun _ _ _ h => h) (Or.inl ⟨by rfl, ?_⟩) hHeld ?_
                          rotate_left
                          · intro w' hSw
                            (go_simp <;> with_reducible rfl)
                          try simp only [Act.put, List.getElem_toArray, List.getElem_cons_succ, List.getElem_cons_zero, List.setIfInBounds_toArray, List.set_cons_zero, List.set_cons_succ]
                          refine wpAnyH_take (i := 10) (oi := _) (v := ?_) rfl (by as_aux_lemma => kernel_rfl) (by as_aux_lemma => kernel_rfl) (by as_aux_lemma => kernel_rfl) (fun _ _ _ h => h) (Or.inl ⟨by rfl, ?_⟩) hHeld ?_
                          rotate_left
                          · intro w' hSw
                            (go_simp <;> with_reducible rfl)
                          try simp only [Act.put, List.getElem_toArray, List.getElem_cons_succ, List.getElem_cons_zero, List.setIfInBounds_toArray, List.set_cons_zero, List.set_cons_succ]
                          refine wpAnyH_take (i := 11) (oi := _) (v := ?_) rfl (by as_aux_lemma => kernel_rfl) (by as_aux_lemma => kernel_rfl) (by as_aux_lemma => kernel_rfl) (fun _ _ _ h => h) (Or.inl ⟨by rfl, ?_⟩) hHeld ?_
                          rotate_left
                          · intro w' hSw
                            (go_simp <;> with_reducible rfl)
                          try simp only [Act.put, List.getElem_toArray, List.getElem_cons_succ, List.getElem_cons_zero, List.setIfInBounds_toArray, List.set_cons_zero, List.set_cons_succ]
                          refine wpAnyH_take (i := 12) (oi := _) (v := ?_) rfl (by as_aux_lemma => kernel_rfl) (by as_aux_lemma => kernel_rfl) (by as_aux_lemma => kernel_rfl) (fun _ _ _ h => h) (Or.inl ⟨by rfl, ?_⟩) hHeld ?_
                          rotate_left
                          · intro w' hSw
                            (go_simp <;> with_reducible rfl)
                          try simp only [Act.put, List.getElem_toArray, List.getElem_cons_succ, List.getElem_cons_zero, List.setIfInBounds_toArray, List.set_cons_zero, List.set_cons_succ]
                          refine wpAnyH_take (i := 13) (oi := _) (v := ?_) rfl (by as_aux_lemma => kernel_rfl) (by as_aux_lemma => kernel_rfl) (by as_aux_lemma => kernel_rfl) (fun _ _ _ h => h) (Or.inl ⟨by rfl, ?_⟩) hHeld ?_
                          rotate_left
                          · intro w' hSw
                            (go_simp <;> with_reducible rfl)
                          try simp only [Act.put, List.getElem_toArray, List.getElem_cons_succ, List.getElem_cons_zero, List.setIfInBounds_toArray, List.set_cons_zero, List.set_cons_succ]
                          refine wpAnyH_take (i := 14) (oi := _) (v := ?_) rfl (by as_aux_lemma => kernel_rfl) (by as_aux_lemma => kernel_rfl) (by as_aux_lemma => kernel_rfl) (fun _ _ _ h => h) (Or.inl ⟨by rfl, ?_⟩) hHeld ?_
                          rotate_left
                          · intro w' hSw
                            (go_simp <;> with_reducible rfl)
                          try simp only [Act.put, List.getElem_toArray, List.getElem_cons_succ, List.getElem_cons_zero, List.setIfInBounds_toArray, List.set_cons_zero, List.set_cons_succ]
                          refine wpAnyH_take (i := 15) (oi := _) (v := ?_) rfl (by as_aux_lemma => kernel_rfl) (by as_aux_lemma => kernel_rfl) (by as_aux_lemma => kernel_rfl) (fun _ _ _ h => h) (Or.inl ⟨by rfl, ?_⟩) hHeld ?_
                          rotate_left
                          · intro w' hSw
                            (go_simp <;> with_reducible rfl)
                          try simp only [Act.put, List.getElem_toArray, List.getElem_cons_succ, List.getElem_cons_zero, List.setIfInBounds_toArray, List.set_cons_zero, List.set_cons_succ]
                          refine wpAnyH_take (i := 16) (oi := _) (v := ?_) rfl (by as_aux_lemma => kernel_rfl) (by as_aux_lemma => kernel_rfl) (by as_aux_lemma => kernel_rfl) (fun _ _ _ h => h) (Or.inl ⟨by rfl, ?_⟩) hHeld ?_
                          rotate_left
                          · intro w' hSw
                            have p0 := cell_bel hSw hpab p0
                            have q0 := cell_bel hSw hpbb q0
                            have r0 := cell_bel hSw hrb0 r0
                            obtain ⟨c0, c1, c2⟩ := (hVn.below hSw).at
                            obtain ⟨d0, d1, d2⟩ := (hVz.below hSw).at
                            have f1 := cell_bel hSw hnb f1
                            have f2 := cell_bel hSw hnb f2
                            have f3 := cell_bel hSw hnb f3
                            have f4 := cell_bel hSw hnb f4
                            have f5 := cell_bel hSw hnb f5
                            have f7 := cell_bel hSw hnb f7
                            have g0 := cell_bel hSw hzb g0
                            have g1 := cell_bel hSw hzb g1
                            have g2 := cell_bel hSw hzb g2
                            (go_simp <;> with_reducible rfl)
                          try simp only [Act.put, List.getElem_toArray, List.getElem_cons_succ, List.getElem_cons_zero, List.setIfInBounds_toArray, List.set_cons_zero, List.set_cons_succ]
                          refine wpAnyH_take (i := 17) (oi := _) (v := ?_) rfl (by as_aux_lemma => kernel_rfl) (by as_aux_lemma => kernel_rfl) (by as_aux_lemma => kernel_rfl) (fun _ _ _ h => h) (Or.inl ⟨by rfl, ?_⟩) hHeld ?_
                          rotate_left
                          · intro w' hSw
                            (go_simp <;> with_reducible rfl)
                          try simp only [Act.put, List.getElem_toArray, List.getElem_cons_succ, List.getElem_cons_zero, List.setIfInBounds_toArray, List.set_cons_zero, List.set_cons_succ]
                          refine wpAnyH_take (i := 18) (oi := _) (v := ?_) rfl (by as_aux_lemma => kernel_rfl) (by as_aux_lemma => kernel_rfl) (by as_aux_lemma => kernel_rfl) (fun _ _ _ h => h) (Or.inl ⟨by rfl, ?_⟩) hHeld ?_
                          rotate_left
                          · intro w' hSw
                            (go_simp <;> with_reducible rfl)
                          try simp only [Act.put, List.getElem_toArray, List.getElem_cons_succ, List.getElem_cons_zero, List.setIfInBounds_toArray, List.set_cons_zero, List.set_cons_succ]
                          refine wpAnyH_take (i := 19) (oi := _) (v := ?_) rfl (by as_aux_lemma => kernel_rfl) (by as_aux_lemma => kernel_rfl) (by as_aux_lemma => kernel_rfl) (fun _ _ _ h => h) (Or.inl ⟨by rfl, ?_⟩) hHeld ?_
                          rotate_left
                          · intro w' hSw
                            (go_simp <;> with_reducible rfl)
                          try simp only [Act.put, List.getElem_toArray, List.getElem_cons_succ, List.getElem_cons_zero, List.setIfInBounds_toArray, List.set_cons_zero, List.set_cons_succ]
                          refine wpAnyH_take (i := 20) (oi := _) (v := ?_) rfl (by as_aux_lemma => kernel_rfl) (by as_aux_lemma => kernel_rfl) (by as_aux_lemma => kernel_rfl) (fun _ _ _ h => h) (Or.inl ⟨by rfl, ?_⟩) hHeld ?_
                          rotate_left
                          · intro w' hSw
                            (go_simp <;> with_reducible rfl)
                          try simp only [Act.put, List.getElem_toArray, List.getElem_cons_succ, List.getElem_cons_zero, List.setIfInBounds_toArray, List.set_cons_zero, List.set_cons_succ]
                          refine wpAnyH_take (i := 21) (oi := _) (v := ?_) rfl (by as_aux_lemma => kernel_rfl) (by as_aux_lemma => kernel_rfl) (by as_aux_lemma => kernel_rfl) (fun _ _ _ h => h) (Or.inl ⟨by rfl, ?_⟩) hHeld ?_
                          rotate_left
                          · intro w' hSw
                            (go_simp <;> with_reducible rfl)
                          try simp only [Act.put, List.getElem_toArray, List.getElem_cons_succ, List.getElem_cons_zero, List.setIfInBounds_toArray, List.set_cons_zero, List.set_cons_succ]
                          refine wpAnyH_take (i := 22) (oi := _) (v := ?_) rfl (by as_aux_lemma => kernel_rfl) (by as_aux_lemma => kernel_rfl) (by as_aux_lemma => kernel_rfl) (fun _ _ _ h => h) (Or.inl ⟨by rfl, ?_⟩) hHeld ?_
                          rotate_left
                          · intro w' hSw
                            (go_simp <;> with_reducible rfl)
                          try simp only [Act.put, List.getElem_toArray, List.getElem_cons_succ, List.getElem_cons_zero, List.setIfInBounds_toArray, List.set_cons_zero, List.set_cons_succ]
                          refine wpAnyH_take (i := 23) (oi := _) (v := ?_) rfl (by as_aux_lemma => kernel_rfl) (by as_aux_lemma => kernel_rfl) (by as_aux_lemma => kernel_rfl) (fun _ _ _ h => h) (Or.inl ⟨by rfl, ?_⟩) hHeld ?_
                          rotate_left
                          · intro w' hSw
                            (go_simp <;> with_reducible rfl)
                          try simp only [Act.put, List.getElem_toArray, List.getElem_cons_succ, List.getElem_cons_zero, List.setIfInBounds_toArray, List.set_cons_zero, List.set_cons_succ]
                          refine wpAnyH_take (i := 24) (oi := _) (v := ?_) rfl (by as_aux_lemma => kernel_rfl) (by as_aux_lemma => kernel_rfl) (by as_aux_lemma => kernel_rfl) (fun _ _ _ h => h) (Or.inl ⟨by rfl, ?_⟩) hHeld ?_
                          rotate_left
                          · intro w' hSw
                            have p0 := cell_bel hSw hpab p0
                            have q0 := cell_bel hSw hpbb q0
                            have r0 := cell_bel hSw hrb0 r0
                            obtain ⟨c0, c1, c2⟩ := (hVn.below hSw).at
                            obtain ⟨d0, d1, d2⟩ := (hVz.below hSw).at
                            have f1 := cell_bel hSw hnb f1
                            have f2 := cell_bel hSw hnb f2
                            have f3 := cell_bel hSw hnb f3
                            have f4 := cell_bel hSw hnb f4
                            have f5 := cell_bel hSw hnb f5
                            have f7 := cell_bel hSw hnb f7
                            have g0 := cell_bel hSw hzb g0
                            have g1 := cell_bel hSw hzb g1
                            have g2 := cell_bel hSw hzb g2
                            (go_simp <;> with_reducible rfl)
                          try simp only [Act.put, List.getElem_toArray, List.getElem_cons_succ, List.getElem_cons_zero, List.setIfInBounds_toArray, List.set_cons_zero, List.set_cons_succ]
                          refine wpAnyH_take (i := 25) (oi := _) (v := ?_) rfl (by as_aux_lemma => kernel_rfl) (by as_aux_lemma => kernel_rfl) (by as_aux_lemma => kernel_rfl) (fun _ _ _ h => h) (Or.inl ⟨by rfl, ?_⟩) hHeld ?_
                          rotate_left
                          · intro w' hSw
                            (go_simp <;> with_reducible rfl)
                          try simp only [Act.put, List.getElem_toArray, List.getElem_cons_succ, List.getElem_cons_zero, List.setIfInBounds_toArray, List.set_cons_zero, List.set_cons_succ]
                          refine wpAnyH_take (i := 26) (oi := _) (v := ?_) rfl (by as_aux_lemma => kernel_rfl) (by as_aux_lemma => kernel_rfl) (by as_aux_lemma => kernel_rfl) (fun _ _ _ h => h) (Or.inl ⟨by rfl, ?_⟩) hHeld ?_
                          rotate_left
                          · intro w' hSw
                            have p0 := cell_bel hSw hpab p0
                            have q0 := cell_bel hSw hpbb q0
                            have r0 := cell_bel hSw hrb0 r0
                            obtain ⟨c0, c1, c2⟩ := (hVn.below hSw).at
                            obtain ⟨d0, d1, d2⟩ := (hVz.below hSw).at
                            have f1 := cell_bel hSw hnb f1
                            have f2 := cell_bel hSw hnb f2
                            have f3 := cell_bel hSw hnb f3
                            have f4 := cell_bel hSw hnb f4
                            have f5 := cell_bel hSw hnb f5
                            have f7 := cell_bel hSw hnb f7
                            have g0 := cell_bel hSw hzb g0
                            have g1 := cell_bel hSw hzb g1
                            have g2 := cell_bel hSw hzb g2
                            (go_simp <;> with_reducible rfl)
                          try simp only [Act.put, List.getElem_toArray, List.getElem_cons_succ, List.getElem_cons_zero, List.setIfInBounds_toArray, List.set_cons_zero, List.set_cons_succ]
                          refine wpAnyH_take (i := 27) (oi := _) (v := ?_) rfl (by as_aux_lemma => kernel_rfl) (by as_aux_lemma => kernel_rfl) (by as_aux_lemma => kernel_rfl) (fun _ _ _ h => h) (Or.inl ⟨by rfl, ?_⟩) hHeld ?_
                          rotate_left
                          · intro w' hSw
                            (go_simp <;> with_reducible rfl)
                          try simp only [Act.put, List.getElem_toArray, List.getElem_cons_succ, List.getElem_cons_zero, List.setIfInBounds_toArray, List.set_cons_zero, List.set_cons_succ]
                          refine wpAnyH_take (i := 28) (oi := _) (v := ?_) rfl (by as_aux_lemma => kernel_rfl) (by as_aux_lemma => kernel_rfl) (by as_aux_lemma => kernel_rfl) (fun _ _ _ h => h) (Or.inl ⟨by rfl, ?_⟩) hHeld ?_
                          rotate_left
                          · intro w' hSw
                            (go_simp <;> with_reducible rfl)
                          try simp only [Act.put, List.getElem_toArray, List.getElem_cons_succ, List.getElem_cons_zero, List.setIfInBounds_toArray, List.set_cons_zero, List.set_cons_succ]
                          refine wpAnyH_take (i := 29) (oi := _) (v := ?_) rfl (by as_aux_lemma => kernel_rfl) (by as_aux_lemma => kernel_rfl) (by as_aux_lemma => kernel_rfl) (fun _ _ _ h => h) (Or.inl ⟨by rfl, ?_⟩) hHeld ?_
                          rotate_left
                          · intro w' hSw
                            (go_simp <;> with_reducible rfl)
                          try simp only [Act.put, List.getElem_toArray, List.getElem_cons_succ, List.getElem_cons_zero, List.setIfInBounds_toArray, List.set_cons_zero, List.set_cons_succ]
                          refine wpAnyH_take (i := 30) (oi := _) (v := ?_) rfl (by as_aux_lemma => kernel_rfl) (by as_aux_lemma => kernel_rfl) (by as_aux_lemma => kernel_rfl) (fun _ _ _ h => h) (Or.inl ⟨by rfl, ?_⟩) hHeld ?_
                          rotate_left
                          · intro w' hSw
                            (go_simp <;> with_reducible rfl)
                          try simp only [Act.put, List.getElem_toArray, List.getElem_cons_succ, List.getElem_cons_zero, List.setIfInBounds_toArray, List.set_cons_zero, List.set_cons_succ]
                          refine wpAnyH_take (i := 31) (oi := _) (v := ?_) rfl (by as_aux_lemma => kernel_rfl) (by as_aux_lemma => kernel_rfl) (by as_aux_lemma => kernel_rfl) (fun _ _ _ h => h) (Or.inl ⟨by rfl, ?_⟩) hHeld ?_
                          rotate_left
                          · intro w' hSw
                            (go_simp <;> with_reducible rfl)
                          try simp only [Act.put, List.getElem_toArray, List.getElem_cons_succ, List.getElem_cons_zero, List.setIfInBounds_toArray, List.set_cons_zero, List.set_cons_succ]
                          refine wpAnyH_take (i := 32) (oi := _) (v := ?_) rfl (by as_aux_lemma => kernel_rfl) (by as_aux_lemma => kernel_rfl) (by as_aux_lemma => kernel_rfl) (fun _ _ _ h => h) (Or.inl ⟨by rfl, ?_⟩) hHeld ?_
                          rotate_left
                          · intro w' hSw
                            (go_simp <;> with_reducible rfl)
                          try simp only [Act.put, List.getElem_toArray, List.getElem_cons_succ, List.getElem_cons_zero, List.setIfInBounds_toArray, List.set_cons_zero, List.set_cons_succ]
                          refine wpAnyH_take (i := 33) (oi := _) (v := ?_) rfl (by as_aux_lemma => kernel_rfl) (by as_aux_lemma => kernel_rfl) (by as_aux_lemma => kernel_rfl) (fun _ _ _ h => h) (Or.inl ⟨by rfl, ?_⟩) hHeld ?_
                          rotate_left
                          · intro w' hSw
                            have p0 := cell_bel hSw hpab p0
                            have q0 := cell_bel hSw hpbb q0
                            have r0 := cell_bel hSw hrb0 r0
                            obtain ⟨c0, c1, c2⟩ := (hVn.below hSw).at
                            obtain ⟨d0, d1, d2⟩ := (hVz.below hSw).at
                            have f1 := cell_bel hSw hnb f1
                            have f2 := cell_bel hSw hnb f2
                            have f3 := cell_bel hSw hnb f3
                            have f4 := cell_bel hSw hnb f4
                            have f5 := cell_bel hSw hnb f5
                            have f7 := cell_bel hSw hnb f7
                            have g0 := cell_bel hSw hzb g0
                            have g1 := cell_bel hSw hzb g1
                            have g2 := cell_bel hSw hzb g2
                            (go_simp <;> with_reducible rfl)
                          try simp only [Act.put, List.getElem_toArray, List.getElem_cons_succ, List.getElem_cons_zero, List.setIfInBounds_toArray, List.set_cons_zero, List.set_cons_succ]
                          refine wpAnyH_take (i := 34) (oi := _) (v := ?_) rfl (by as_aux_lemma => kernel_rfl) (by as_aux_lemma => kernel_rfl) (by as_aux_lemma => kernel_rfl) (fun _ _ _ h => h) (Or.inl ⟨by rfl, ?_⟩) hHeld ?_
                          rotate_left
                          · intro w' hSw
                            (go_simp <;> with_reducible rfl)
                          try simp only [Act.put, List.getElem_toArray, List.getElem_cons_succ, List.getElem_cons_zero, List.setIfInBounds_toArray, List.set_cons_zero, List.set_cons_succ]
                          refine wpAnyH_take (i := 35) (oi := _) (v := ?_) rfl (by as_aux_lemma => kernel_rfl) (by as_aux_lemma => kernel_rfl) (by as_aux_lemma => kernel_rfl) (fun _ _ _ h => h) (Or.inl ⟨by rfl, ?_⟩) hHeld ?_
                          rotate_left
                          · intro w' hSw
                            (go_simp <;> with_reducible rfl)
                          try simp only [Act.put, List.getElem_toArray, List.getElem_cons_succ, List.getElem_cons_zero, List.setIfInBounds_toArray, List.set_cons_zero, List.set_cons_succ]
                          refine wpAnyH_take (i := 36) (oi := _) (v := ?_) rfl (by as_aux_lemma => kernel_rfl) (by as_aux_lemma => kernel_rfl) (by as_aux_lemma => kernel_rfl) (fun _ _ _ h => h) (Or.inl ⟨by rfl, ?_⟩) hHeld ?_
                          rotate_left
                          · intro w' hSw
                            (go_simp <;> with_reducible rfl)
                          try simp only [Act.put, List.getElem_toArray, List.getElem_cons_succ, List.getElem_cons_zero, List.setIfInBounds_toArray, List.set_cons_zero, List.set_cons_succ]
                          refine wpAnyH_take (i := 37) (oi := _) (v := ?_) rfl (by as_aux_lemma => kernel_rfl) (by as_aux_lemma => kernel_rfl) (by as_aux_lemma => kernel_rfl) (fun _ _ _ h => h) (Or.inl ⟨by rfl, ?_⟩) hHeld ?_
                          rotate_left
                          · intro w' hSw
                            (go_simp <;> with_reducible rfl)
                          try simp only [Act.put, List.getElem_toArray, List.getElem_cons_succ, List.getElem_cons_zero, List.setIfInBounds_toArray, List.set_cons_zero, List.set_cons_succ]
                          refine wpAnyH_take (i := 38) (oi := _) (v := ?_) rfl (by as_aux_lemma => kernel_rfl) (by as_aux_lemma => kernel_rfl) (by as_aux_lemma => kernel_rfl) (fun _ _ _ h => h) (Or.inl ⟨by rfl, ?_⟩) hHeld ?_
                          rotate_left
                          · intro w' hSw
                            have p0 := cell_bel hSw hpab p0
                            have q0 := cell_bel hSw hpbb q0
                            have r0 := cell_bel hSw hrb0 r0
                            obtain ⟨c0, c1, c2⟩ := (hVn.below hSw).at
                            obtain ⟨d0, d1, d2⟩ := (hVz.below hSw).at
                            have f1 := cell_bel hSw hnb f1
                            have f2 := cell_bel hSw hnb f2
                            have f3 := cell_bel hSw hnb f3
                            have f4 := cell_bel hSw hnb f4
                            have f5 := cell_bel hSw hnb f5
                            have f7 := cell_bel hSw hnb f7
                            have g0 := cell_bel hSw hzb g0
                            have g1 := cell_bel hSw hzb g1
                            have g2 := cell_bel hSw hzb g2
                            (go_simp <;> with_reducible rfl)
                          try simp only [Act.put, List.getElem_toArray, List.getElem_cons_succ, List.getElem_cons_zero, List.setIfInBounds_toArray, List.set_cons_zero, List.set_cons_succ]
                          refine wpAnyH_take (i := 39) (oi := _) (v := ?_) rfl (by as_aux_lemma => kernel_rfl) (by as_aux_lemma => kernel_rfl) (by as_aux_lemma => kernel_rfl) (fun _ _ _ h => h) (Or.inl ⟨by rfl, ?_⟩) hHeld ?_
                          rotate_left
                          · intro w' hSw
                            (go_simp <;> with_reducible rfl)
                          try simp only [Act.put, List.getElem_toArray, List.getElem_cons_succ, List.getElem_cons_zero, List.setIfInBounds_toArray, List.set_cons_zero, List.set_cons_succ]
                          refine wpAnyH_take (i := 40) (oi := _) (v := ?_) rfl (by as_aux_lemma => kernel_rfl) (by as_aux_lemma => kernel_rfl) (by as_aux_lemma => kernel_rfl) (fun _ _ _ h => h) (Or.inl ⟨by rfl, ?_⟩) hHeld ?_
                          rotate_left
                          · intro w' hSw
                            (go_simp <;> with_reducible rfl)
                          try simp only [Act.put, List.getElem_toArray, List.getElem_cons_succ, List.getElem_cons_zero, List.setIfInBounds_toArray, List.set_cons_zero, List.set_cons_succ]
                          refine wpAnyH_take (i := 41) (oi := _) (v := ?_) rfl (by as_aux_lemma => kernel_rfl) (by as_aux_lemma => kernel_rfl) (by as_aux_lemma => kernel_rfl) (fun _ _ _ h => h) (Or.inl ⟨by rfl, ?_⟩) hHeld ?_
                          rotate_left
                          · intro w' hSw
                            (go_simp <;> with_reducible rfl)
                          try simp only [Act.put, List.getElem_toArray, List.getElem_cons_succ, List.getElem_cons_zero, List.setIfInBounds_toArray, List.set_cons_zero, List.set_cons_succ]
                          refine wpAnyH_take (i := 42) (oi := _) (v := ?_) rfl (by as_aux_lemma => kernel_rfl) (by as_aux_lemma => kernel_rfl) (by as_aux_lemma => kernel_rfl) (fun _ _ _ h => h) (Or.inl ⟨by rfl, ?_⟩) hHeld ?_
                          rotate_left
                          · intro w' hSw
                            (go_simp <;> with_reducible rfl)
                          try simp only [Act.put, List.getElem_toArray, List.getElem_cons_succ, List.getElem_cons_zero, List.setIfInBounds_toArray, List.set_cons_zero, List.set_cons_succ]
                          refine wpAnyH_take (i := 43) (oi := _) (v := ?_) rfl (by as_aux_lemma => kernel_rfl) (by as_aux_lemma => kernel_rfl) (by as_aux_lemma => kernel_rfl) (fun _ _ _ h => h) (Or.inl ⟨by rfl, ?_⟩) hHeld ?_
                          rotate_left
                          · intro w' hSw
                            have p0 := cell_bel hSw hpab p0
                            have q0 := cell_bel hSw hpbb q0
                            have r0 := cell_bel hSw hrb0 r0
                            obtain ⟨c0, c1, c2⟩ := (hVn.below hSw).at
                            obtain ⟨d0, d1, d2⟩ := (hVz.below hSw).at
                            have f1 := cell_bel hSw hnb f1
                            have f2 := cell_bel hSw hnb f2
                            have f3 := cell_bel hSw hnb f3
                            have f4 := cell_bel hSw hnb f4
                            have f5 := cell_bel hSw hnb f5
                            have f7 := cell_bel hSw hnb f7
                            have g0 := cell_bel hSw hzb g0
                            have g1 := cell_bel hSw hzb g1
                            have g2 := cell_bel hSw hzb g2
                            (go_simp <;> with_reducible rfl)
                          try simp only [Act.put, List.getElem_toArray, List.getElem_cons_succ, List.getElem_cons_zero, List.setIfInBounds_toArray, List.set_cons_zero, List.set_cons_succ]
                          refine wpAnyH_take (i := 44) (oi := _) (v := ?_) rfl (by as_aux_lemma => kernel_rfl) (by as_aux_lemma => kernel_rfl) (by as_aux_lemma => kernel_rfl) (fun _ _ _ h => h) (Or.inl ⟨by rfl, ?_⟩) hHeld ?_
                          rotate_left
                          · intro w' hSw
                            (go_simp <;> with_reducible rfl)
                          try simp only [Act.put, List.getElem_toArray, List.getElem_cons_succ, List.getElem_cons_zero, List.setIfInBounds_toArray, List.set_cons_zero, List.set_cons_succ]
                          refine wpAnyH_take (i := 45) (oi := _) (v := ?_) rfl (by as_aux_lemma => kernel_rfl) (by as_aux_lemma => kernel_rfl) (by as_aux_lemma => kernel_rfl) (fun _ _ _ h => h) (Or.inl ⟨by rfl, ?_⟩) hHeld ?_
                          rotate_left
                          · intro w' hSw
                            (go_simp <;> with_reducible rfl)
                          try simp only [Act.put, List.getElem_toArray, List.getElem_cons_succ, List.getElem_cons_zero, List.setIfInBounds_toArray, List.set_cons_zero, List.set_cons_succ]
                          refine wpAnyH_take (i := 46) (oi := _) (v := ?_) rfl (by as_aux_lemma => kernel_rfl) (by as_aux_lemma => kernel_rfl) (by as_aux_lemma => kernel_rfl) (fun _ _ _ h => h) (Or.inl ⟨by rfl, ?_⟩) hHeld ?_
                          rotate_left
                          · intro w' hSw
                            (go_simp <;> with_reducible rfl)
                          try simp only [Act.put, List.getElem_toArray, List.getElem_cons_succ, List.getElem_cons_zero, List.setIfInBounds_toArray, List.set_cons_zero, List.set_cons_succ]
                          refine wpAnyH_take (i := 47) (oi := _) (v := ?_) rfl (by as_aux_lemma => kernel_rfl) (by as_aux_lemma => kernel_rfl) (by as_aux_lemma => kernel_rfl) (fun _ _ _ h => h) (Or.inl ⟨by rfl, ?_⟩) hHeld ?_
                          rotate_left
                          · intro w' hSw
                            (go_simp <;> with_reducible rfl)
                          try simp only [Act.put, List.getElem_toArray, List.getElem_cons_succ, List.getElem_cons_zero, List.setIfInBounds_toArray, List.set_cons_zero, List.set_cons_succ]
                          refine wpAnyH_take (i := 48) (oi := _) (v := ?_) rfl (by as_aux_lemma => kernel_rfl) (by as_aux_lemma => kernel_rfl) (by as_aux_lemma => kernel_rfl) (fun _ _ _ h => h) (Or.inl ⟨by rfl, ?_⟩) hHeld ?_
                          rotate_left
                          · intro w' hSw
                            have p0 := cell_bel hSw hpab p0
                            have q0 := cell_bel hSw hpbb q0
                            have r0 := cell_bel hSw hrb0 r0
                            obtain ⟨c0, c1, c2⟩ := (hVn.below hSw).at
                            obtain ⟨d0, d1, d2⟩ := (hVz.below hSw).at
                            have f1 := cell_bel hSw hnb f1
                            have f2 := cell_bel hSw hnb f2
                            have f3 := cell_bel hSw hnb f3
                            have f4 := cell_bel hSw hnb f4
                            have f5 := cell_bel hSw hnb f5
                            have f7 := cell_bel hSw hnb f7
                            have g0 := cell_bel hSw hzb g0
                            have g1 := cell_bel hSw hzb g1
                            have g2 := cell_bel hSw hzb g2
                            (go_simp <;> with_reducible rfl)
                          try simp only [Act.put, List.getElem_toArray, List.getElem_cons_succ, List.getElem_cons_zero, List.setIfInBounds_toArray, List.set_cons_zero, List.set_cons_succ]
                          refine wpAnyH_take (i := 49) (oi := _) (v := ?_) rfl (by as_aux_lemma => kernel_rfl) (by as_aux_lemma => kernel_rfl) (by as_aux_lemma => kernel_rfl) (fun _ _ _ h => h) (Or.inl ⟨by rfl, ?_⟩) hHeld ?_
                          rotate_left
                          · intro w' hSw
                            (go_simp <;> with_reducible rfl)
                          try simp only [Act.put, List.getElem_toArray, List.getElem_cons_succ, List.getElem_cons_zero, List.setIfInBounds_toArray, List.set_cons_zero, List.set_cons_succ]
                          refine wpAnyH_take (i := 50) (oi := _) (v := ?_) rfl (by as_aux_lemma => kernel_rfl) (by as_aux_lemma => kernel_rfl) (by as_aux_lemma => kernel_rfl) (fun _ _ _ h => h) (Or.inl ⟨by rfl, ?_⟩) hHeld ?_
                          rotate_left
                          · intro w' hSw
                            (go_simp <;> with_reducible rfl)
                          try simp only [Act.put, List.getElem_toArray, List.getElem_cons_succ, List.getElem_cons_zero, List.setIfInBounds_toArray, List.set_cons_zero, List.set_cons_succ]
                          refine wpAnyH_take (i := 51) (oi := _) (v := ?_) rfl (by as_aux_lemma => kernel_rfl) (by as_aux_lemma => kernel_rfl) (by as_aux_lemma => kernel_rfl) (fun _ _ _ h => h) (Or.inl ⟨by rfl, ?_⟩) hHeld ?_
                          rotate_left
                          · intro w' hSw
                            have p0 := cell_bel hSw hpab p0
                            have q0 := cell_bel hSw hpbb q0
                            have r0 := cell_bel hSw hrb0 r0
                            obtain ⟨c0, c1, c2⟩ := (hVn.below hSw).at
                            obtain ⟨d0, d1, d2⟩ := (hVz.below hSw).at
                            have f1 := cell_bel hSw hnb f1
                            have f2 := cell_bel hSw hnb f2
                            have f3 := cell_bel hSw hnb f3
                            have f4 := cell_bel hSw hnb f4
                            have f5 := cell_bel hSw hnb f5
                            have f7 := cell_bel hSw hnb f7
                            have g0 := cell_bel hSw hzb g0
                            have g1 := cell_bel hSw hzb g1
                            have g2 := cell_bel hSw hzb g2
                            (go_simp <;> with_reducible rfl)
                          try simp only [Act.put, List.getElem_toArray, List.getElem_cons_succ, List.getElem_cons_zero, List.setIfInBounds_toArray, List.set_cons_zero, List.set_cons_succ]
                          refine wpAnyH_take (i := 52) (oi := _) (v := ?_) rfl (by as_aux_lemma => kernel_rfl) (by as_aux_lemma => kernel_rfl) (by as_aux_lemma => kernel_rfl) (fun _ _ _ h => h) (Or.inl ⟨by rfl, ?_⟩) hHeld ?_
                          rotate_left
                          · intro w' hSw
                            (go_simp <;> with_reducible rfl)
                          try simp only [Act.put, List.getElem_toArray, List.getElem_cons_succ, List.getElem_cons_zero, List.setIfInBounds_toArray, List.set_cons_zero, List.set_cons_succ]
                          refine wpAnyH_take (i := 53) (oi := _) (v := ?_) rfl (by as_aux_lemma => kernel_rfl) (by as_aux_lemma => kernel_rfl) (by as_aux_lemma => kernel_rfl) (fun _ _ _ h => h) (Or.inl ⟨by rfl, ?_⟩) hHeld ?_
                          rotate_left
                          · intro w' hSw
                            (go_simp <;> with_reducible rfl)
                          try simp only [Act.put, List.getElem_toArray, List.getElem_cons_succ, List.getElem_cons_zero, List.setIfInBounds_toArray, List.set_cons_zero, List.set_cons_succ]
                          refine wpAnyH_take (i := 54) (oi := _) (v := ?_) rfl (by as_aux_lemma => kernel_rfl) (by as_aux_lemma => kernel_rfl) (by as_aux_lemma => kernel_rfl) (fun _ _ _ h => h) (Or.inl ⟨by rfl, ?_⟩) hHeld ?_
                          rotate_left
                          · intro w' hSw
                            (go_simp <;> with_reducible rfl)
                          try simp only [Act.put, List.getElem_toArray, List.getElem_cons_succ, List.getElem_cons_zero, List.setIfInBounds_toArray, List.set_cons_zero, List.set_cons_succ]
                          refine wpAnyH_take (i := 55) (oi := _) (v := ?_) rfl (by as_aux_lemma => kernel_rfl) (by as_aux_lemma => kernel_rfl) (by as_aux_lemma => kernel_rfl) (fun _ _ _ h => h) (Or.inl ⟨by rfl, ?_⟩) hHeld ?_
                          rotate_left
                          · intro w' hSw
                            have p0 := cell_bel hSw hpab p0
                            have q0 := cell_bel hSw hpbb q0
                            have r0 := cell_bel hSw hrb0 r0
                            obtain ⟨c0, c1, c2⟩ := (hVn.below hSw).at
                            obtain ⟨d0, d1, d2⟩ := (hVz.below hSw).at
                            have f1 := cell_bel hSw hnb f1
                            have f2 := cell_bel hSw hnb f2
                            have f3 := cell_bel hSw hnb f3
                            have f4 := cell_bel hSw hnb f4
                            have f5 := cell_bel hSw hnb f5
                            have f7 := cell_bel hSw hnb f7
                            have g0 := cell_bel hSw hzb g0
                            have g1 := cell_bel hSw hzb g1
                            have g2 := cell_bel hSw hzb g2
                            (go_simp <;> with_reducible rfl)
                          try simp only [Act.put, List.getElem_toArray, List.getElem_cons_succ, List.getElem_cons_zero, List.setIfInBounds_toArray, List.set_cons_zero, List.set_cons_succ]
                          refine wpAnyH_take (i := 56) (oi := _) (v := ?_) rfl (by as_aux_lemma => kernel_rfl) (by as_aux_lemma => kernel_rfl) (by as_aux_lemma => kernel_rfl) (fun _ _ _ h => h) (Or.inl ⟨by rfl, ?_⟩) hHeld ?_
                          rotate_left
                          · intro w' hSw
                            (go_simp <;> with_reducible rfl)
                          try simp only [Act.put, List.getElem_toArray, List.getElem_cons_succ, List.getElem_cons_zero, List.setIfInBounds_toArray, List.set_cons_zero, List.set_cons_succ]
                          refine wpAnyH_take (i := 57) (oi := _) (v := ?_) rfl (by as_aux_lemma => kernel_rfl) (by as_aux_lemma => kernel_rfl) (by as_aux_lemma => kernel_rfl) (fun _ _ _ h => h) (Or.inl ⟨by rfl, ?_⟩) hHeld ?_
                          rotate_left
                          · intro w' hSw
                            (go_simp <;> with_reducible rfl)
                          try simp only [Act.put, List.getElem_toArray, List.getElem_cons_succ, List.getElem_cons_zero, List.setIfInBounds_toArray, List.set_cons_zero, List.set_cons_succ]
                          refine wpAnyH_take (i := 58) (oi := _) (v := ?_) rfl (by as_aux_lemma => kernel_rfl) (by as_aux_lemma => kernel_rfl) (by as_aux_lemma => kernel_rfl) (fun _ _ _ h => h) (Or.inl ⟨by rfl, ?_⟩) hHeld ?_
                          rotate_left
                          · intro w' hSw
                            (go_simp <;> with_reducible rfl)
                          try simp only [Act.put, List.getElem_toArray, List.getElem_cons_succ, List.getElem_cons_zero, List.setIfInBounds_toArray, List.set_cons_zero, List.set_cons_succ]
                          refine wpAnyH_take (i := 59) (oi := _) (v := ?_) rfl (by as_aux_lemma => kernel_rfl) (by as_aux_lemma => kernel_rfl) (by as_aux_lemma => kernel_rfl) (fun _ _ _ h => h) (Or.inl ⟨by rfl, ?_⟩) hHeld ?_
                          rotate_left
                          · intro w' hSw
                            (go_simp <;> with_reducible rfl)
                          try simp only [Act.put, List.getElem_toArray, List.getElem_cons_succ, List.getElem_cons_zero, List.setIfInBounds_toArray, List.set_cons_zero, List.set_cons_succ]
                          refine wpAnyH_take (i := 60) (oi := _) (v := ?_) rfl (by as_aux_lemma => kernel_rfl) (by as_aux_lemma => kernel_rfl) (by as_aux_lemma => kernel_rfl) (fun _ _ _ h => h) (Or.inl ⟨by rfl, ?_⟩) hHeld ?_
                          rotate_left
                          · intro w' hSw
                            (go_simp <;> with_reducible rfl)
                          try simp only [Act.put, List.getElem_toArray, List.getElem_cons_succ, List.getElem_cons_zero, List.setIfInBounds_toArray, List.set_cons_zero, List.set_cons_succ]
                          refine wpAnyH_take (i := 61) (oi := _) (v := ?_) rfl (by as_aux_lemma => kernel_rfl) (by as_aux_lemma => kernel_rfl) (by as_aux_lemma => kernel_rfl) (fun _ _ _ h => h) (Or.inl ⟨by rfl, ?_⟩) hHeld ?_
                          rotate_left
                          · intro w' hSw
                            have p0 := cell_bel hSw hpab p0
                            have q0 := cell_bel hSw hpbb q0
                            have r0 := cell_bel hSw hrb0 r0
                            obtain ⟨c0, c1, c2⟩ := (hVn.below hSw).at
                            obtain ⟨d0, d1, d2⟩ := (hVz.below hSw).at
                            have f1 := cell_bel hSw hnb f1
                            have f2 := cell_bel hSw hnb f2
                            have f3 := cell_bel hSw hnb f3
                            have f4 := cell_bel hSw hnb f4
                            have f5 := cell_bel hSw hnb f5
                            have f7 := cell_bel hSw hnb f7
                            have g0 := cell_bel hSw hzb g0
                            have g1 := cell_bel hSw hzb g1
                            have g2 := cell_bel hSw hzb g2
                            (go_simp <;> with_reducible rfl)
                          try simp only [Act.put, List.getElem_toArray, List.getElem_cons_succ, List.getElem_cons_zero, List.setIfInBounds_toArray, List.set_cons_zero, List.set_cons_succ]
                          refine wpAnyH_take (i := 62) (oi := _) (v := ?_) rfl (by as_aux_lemma => kernel_rfl) (by as_aux_lemma => kernel_rfl) (by as_aux_lemma => kernel_rfl) (fun _ _ _ h => h) (Or.inl ⟨by rfl, ?_⟩) hHeld ?_
                          rotate_left
                          · intro w' hSw
                            (go_simp <;> with_reducible rfl)
                          try simp only [Act.put, List.getElem_toArray, List.getElem_cons_succ, List.getElem_cons_zero, List.setIfInBounds_toArray, List.set_cons_zero, List.set_cons_succ]
                          refine wpAnyH_take (i := 63) (oi := _) (v := ?_) rfl (by as_aux_lemma => kernel_rfl) (by as_aux_lemma => kernel_rfl) (by as_aux_lemma => kernel_rfl) (fun _ _ _ h => h) (Or.inl ⟨by rfl, ?_⟩) hHeld ?_
                          rotate_left
                          · intro w' hSw
                            (go_simp <;> with_reducible rfl)
                          try simp only [Act.put, List.getElem_toArray, List.getElem_cons_succ, List.getElem_cons_zero, List.setIfInBounds_toArray, List.set_cons_zero, List.set_cons_succ]
                          refine wpAnyH_take (i := 64) (oi := _) (v := ?_) rfl (by as_aux_lemma => kernel_rfl) (by as_aux_lemma => kernel_rfl) (by as_aux_lemma => kernel_rfl) (fun _ _ _ h => h) (Or.inl ⟨by rfl, ?_⟩) hHeld ?_
                          rotate_left
                          · intro w' hSw
                            (go_simp <;> with_reducible rfl)
                          try simp only [Act.put, List.getElem_toArray, List.getElem_cons_succ, List.getElem_cons_zero, List.setIfInBounds_toArray, List.set_cons_zero, List.set_cons_succ]
                          refine wpAnyH_take (i := 65) (oi := _) (v := ?_) rfl (by as_aux_lemma => kernel_rfl) (by as_aux_lemma => kernel_rfl) (by as_aux_lemma => kernel_rfl) (fun _ _ _ h => h) (Or.inl ⟨by rfl, ?_⟩) hHeld ?_
                          rotate_left
                          · intro w' hSw
                            (go_simp <;> with_reducible rfl)
                          try simp only [Act.put, List.getElem_toArray, List.getElem_cons_succ, List.getElem_cons_zero, List.setIfInBounds_toArray, List.set_cons_zero, List.set_cons_succ]
                          refine wpAnyH_take (i := 66) (oi := _) (v := ?_) rfl (by as_aux_lemma => kernel_rfl) (by as_aux_lemma => kernel_rfl) (by as_aux_lemma => kernel_rfl) (fun _ _ _ h => h) (Or.inl ⟨by rfl, ?_⟩) hHeld ?_
                          rotate_left
                          · intro w' hSw
                            have p0 := cell_bel hSw hpab p0
                            have q0 := cell_bel hSw hpbb q0
                            have r0 := cell_bel hSw hrb0 r0
                            obtain ⟨c0, c1, c2⟩ := (hVn.below hSw).at
                            obtain ⟨d0, d1, d2⟩ := (hVz.below hSw).at
                            have f1 := cell_bel hSw hnb f1
                            have f2 := cell_bel hSw hnb f2
                            have f3 := cell_bel hSw hnb f3
                            have f4 := cell_bel hSw hnb f4
                            have f5 := cell_bel hSw hnb f5
                            have f7 := cell_bel hSw hnb f7
                            have g0 := cell_bel hSw hzb g0
                            have g1 := cell_bel hSw hzb g1
                            have g2 := cell_bel hSw hzb g2
                            (go_simp <;> with_reducible rfl)
                          try simp only [Act.put, List.getElem_toArray, List.getElem_cons_succ, List.getElem_cons_zero, List.setIfInBounds_toArray, List.set_cons_zero, List.set_cons_succ]
                          refine wpAnyH_take (i := 67) (oi := _) (v := ?_) rfl (by as_aux_lemma => kernel_rfl) (by as_aux_lemma => kernel_rfl) (by as_aux_lemma => kernel_rfl) (fun _ _ _ h => h) (Or.inl ⟨by rfl, ?_⟩) hHeld ?_
                          rotate_left
                          · intro w' hSw
                            (go_simp <;> with_reducible rfl)
                          try simp only [Act.put, List.getElem_toArray, List.getElem_cons_succ, List.getElem_cons_zero, List.setIfInBounds_toArray, List.set_cons_zero, List.set_cons_succ]
                          refine wpAnyH_take (i := 68) (oi := _) (v := ?_) rfl (by as_aux_lemma => kernel_rfl) (by as_aux_lemma => kernel_rfl) (by as_aux_lemma => kernel_rfl) (fun _ _ _ h => h) (Or.inl ⟨by rfl, ?_⟩) hHeld ?_
                          rotate_left
                          · intro w' hSw
                            (go_simp <;> with_reducible rfl)
                          try simp only [Act.put, List.getElem_toArray, List.getElem_cons_succ, List.getElem_cons_zero, List.setIfInBounds_toArray, List.set_cons_zero, List.set_cons_succ]
                          refine wpAnyH_take (i := 69) (oi := _) (v := ?_) rfl (by as_aux_lemma => kernel_rfl) (by as_aux_lemma => kernel_rfl) (by as_aux_lemma => kernel_rfl) (fun _ _ _ h => h) (Or.inl ⟨by rfl, ?_⟩) hHeld ?_
                          rotate_left
                          · intro w' hSw
                            (go_simp <;> with_reducible rfl)
                          try simp only [Act.put, List.getElem_toArray, List.getElem_cons_succ, List.getElem_cons_zero, List.setIfInBounds_toArray, List.set_cons_zero, List.set_cons_succ]
                          refine wpAnyH_take (i := 70) (oi := _) (v := ?_) rfl (by as_aux_lemma => kernel_rfl) (by as_aux_lemma => kernel_rfl) (by as_aux_lemma => kernel_rfl) (fun _ _ _ h => h) (Or.inl ⟨by rfl, ?_⟩) hHeld ?_
                          rotate_left
                          · intro w' hSw
                            (go_simp <;> with_reducible rfl)
                          try simp only [Act.put, List.getElem_toArray, List.getElem_cons_succ, List.getElem_cons_zero, List.setIfInBounds_toArray, List.set_cons_zero, List.set_cons_succ]
                          refine wpAnyH_take (i := 71) (oi := _) (v := ?_) rfl (by as_aux_lemma => kernel_rfl) (by as_aux_lemma => kernel_rfl) (by as_aux_lemma => kernel_rfl) (fun _ _ _ h => h) (Or.inl ⟨by rfl, ?_⟩) hHeld ?_
                          rotate_left
                          · intro w' hSw
                            have p0 := cell_bel hSw hpab p0
                            have q0 := cell_bel hSw hpbb q0
                            have r0 := cell_bel hSw hrb0 r0
                            obtain ⟨c0, c1, c2⟩ := (hVn.below hSw).at
                            obtain ⟨d0, d1, d2⟩ := (hVz.below hSw).at
                            have f1 := cell_bel hSw hnb f1
                            have f2 := cell_bel hSw hnb f2
                            have f3 := cell_bel hSw hnb f3
                            have f4 := cell_bel hSw hnb f4
                            have f5 := cell_bel hSw hnb f5
                            have f7 := cell_bel hSw hnb f7
                            have g0 := cell_bel hSw hzb g0
                            have g1 := cell_bel hSw hzb g1
                            have g2 := cell_bel hSw hzb g2
                            (go_simp <;> with_reducible rfl)
                          try simp only [Act.put, List.getElem_toArray, List.getElem_cons_succ, List.getElem_cons_zero, List.setIfInBounds_toArray, List.set_cons_zero, List.set_cons_succ]
                          refine wpAnyH_take (i := 72) (oi := _) (v := ?_) rfl (by as_aux_lemma => kernel_rfl) (by as_aux_lemma => kernel_rfl) (by as_aux_lemma => kernel_rfl) (fun _ _ _ h => h) (Or.inl ⟨by rfl, ?_⟩) hHeld ?_
                          rotate_left
                          · intro w' hSw
                            (go_simp <;> with_reducible rfl)
                          try simp only [Act.put, List.getElem_toArray, List.getElem_cons_succ, List.getElem_cons_zero, List.setIfInBounds_toArray, List.set_cons_zero, List.set_cons_succ]
                          refine wpAnyH_take (i := 73) (oi := _) (v := ?_) rfl (by as_aux_lemma => kernel_rfl) (by as_aux_lemma => kernel_rfl) (by as_aux_lemma => kernel_rfl) (fun _ _ _ h => h) (Or.inl ⟨by rfl, ?_⟩) hHeld ?_
                          rotate_left
                          · intro w' hSw
                            (go_simp <;> with_reducible rfl)
                          try simp only [Act.put, List.getElem_toArray, List.getElem_cons_succ, List.getElem_cons_zero, List.setIfInBounds_toArray, List.set_cons_zero, List.set_cons_succ]
                          refine wpAnyH_take (i := 74) (oi := _) (v := ?_) rfl (by as_aux_lemma => kernel_rfl) (by as_aux_lemma => kernel_rfl) (by as_aux_lemma => kernel_rfl) (fun _ _ _ h => h) (Or.inl ⟨by rfl, ?_⟩) hHeld ?_
                          rotate_left
                          · intro w' hSw
                            (go_simp <;> with_reducible rfl)
                          try simp only [Act.put, List.getElem_toArray, List.getElem_cons_succ, List.getElem_cons_zero, List.setIfInBounds_toArray, List.set_cons_zero, List.set_cons_succ]
                          refine wpAnyH_take (i := 75) (oi := _) (v := ?_) rfl (by as_aux_lemma => kernel_rfl) (by as_aux_lemma => kernel_rfl) (by as_aux_lemma => kernel_rfl) (fun _ _ _ h => h) (Or.inl ⟨by rfl, ?_⟩) hHeld ?_
                          rotate_left
                          · intro w' hSw
                            (go_simp <;> with_reducible rfl)
                          try simp only [Act.put, List.getElem_toArray, List.getElem_cons_succ, List.getElem_cons_zero, List.setIfInBounds_toArray, List.set_cons_zero, List.set_cons_succ]
                          refine wpAnyH_take (i := 76) (oi := _) (v := ?_) rfl (by as_aux_lemma => kernel_rfl) (by as_aux_lemma => kernel_rfl) (by as_aux_lemma => kernel_rfl) (fun _ _ _ h => h) (Or.inl ⟨by rfl, ?_⟩) hHeld ?_
                          rotate_left
                          · intro w' hSw
                            have p0 := cell_bel hSw hpab p0
                            have q0 := cell_bel hSw hpbb q0
                            have r0 := cell_bel hSw hrb0 r0
                            obtain ⟨c0, c1, c2⟩ := (hVn.below hSw).at
                            obtain ⟨d0, d1, d2⟩ := (hVz.below hSw).at
                            have f1 := cell_bel hSw hnb f1
                            have f2 := cell_bel hSw hnb f2
                            have f3 := cell_bel hSw hnb f3
                            have f4 := cell_bel hSw hnb f4
                            have f5 := cell_bel hSw hnb f5
                            have f7 := cell_bel hSw hnb f7
                            have g0 := cell_bel hSw hzb g0
                            have g1 := cell_bel hSw hzb g1
                            have g2 := cell_bel hSw hzb g2
                            (go_simp <;> with_reducible rfl)
                          try simp only [Act.put, List.getElem_toArray, List.getElem_cons_succ, List.getElem_cons_zero, List.setIfInBounds_toArray, List.set_cons_zero, List.set_cons_succ]
                          refine wpAnyH_take (i := 77) (oi := _) (v := ?_) rfl (by as_aux_lemma => kernel_rfl) (by as_aux_lemma => kernel_rfl) (by as_aux_lemma => kernel_rfl) (fun _ _ _ h => h) (Or.inl ⟨by rfl, ?_⟩) hHeld ?_
                          rotate_left
                          · intro w' hSw
                            (go_simp <;> with_reducible rfl)
                          try simp only [Act.put, List.getElem_toArray, List.getElem_cons_succ, List.getElem_cons_zero, List.setIfInBounds_toArray, List.set_cons_zero, List.set_cons_succ]
                          refine wpAnyH_take (i := 78) (oi := _) (v := ?_) rfl (by as_aux_lemma => kernel_rfl) (by as_aux_lemma => kernel_rfl) (by as_aux_lemma => kernel_rfl) (fun _ _ _ h => h) (Or.inl ⟨by rfl, ?_⟩) hHeld ?_
                          rotate_left
                          · intro w' hSw
                            (go_simp <;> with_reducible rfl)
                          try simp only [Act.put, List.getElem_toArray, List.getElem_cons_succ, List.getElem_cons_zero, List.setIfInBounds_toArray, List.set_cons_zero, List.set_cons_succ]
                          refine wpAnyH_take (i := 79) (oi := _) (v := ?_) rfl (by as_aux_lemma => kernel_rfl) (by as_aux_lemma => kernel_rfl) (by as_aux_lemma => kernel_rfl) (fun _ _ _ h => h) (Or.inl ⟨by rfl, ?_⟩) hHeld ?_
                          rotate_left
                          · intro w' hSw
                            (go_simp <;> with_reducible rfl)
                          try simp only [Act.put, List.getElem_toArray, List.getElem_cons_succ, List.getElem_cons_zero, List.setIfInBounds_toArray, List.set_cons_zero, List.set_cons_succ]
                          refine wpAnyH_take (i := 80) (oi := _) (v := ?_) rfl (by as_aux_lemma => kernel_rfl) (by as_aux_lemma => kernel_rfl) (by as_aux_lemma => kernel_rfl) (fun _ _ _ h => h) (Or.inl ⟨by rfl, ?_⟩) hHeld ?_
                          rotate_left
                          · intro w' hSw
                            (go_simp <;> with_reducible rfl)
                          try simp only [Act.put, List.getElem_toArray, List.getElem_cons_succ, List.getElem_cons_zero, List.setIfInBounds_toArray, List.set_cons_zero, List.set_cons_succ]
                          refine wpAnyH_take (i := 81) (oi := _) (v := ?_) rfl (by as_aux_lemma => kernel_rfl) (by as_aux_lemma => kernel_rfl) (by as_aux_lemma => kernel_rfl) (fun _ _ _ h => h) (Or.inl ⟨by rfl, ?_⟩) hHeld ?_
                          rotate_left
                          · intro w' hSw
                            (go_simp <;> with_reducible rfl)
                          try simp only [Act.put, List.getElem_toArray, List.getElem_cons_succ, List.getElem_cons_zero, List.setIfInBounds_toArray, List.set_cons_zero, List.set_cons_succ]
                          refine wpAnyH_take (i := 82) (oi := _) (v := ?_) rfl (by as_aux_lemma => kernel_rfl) (by as_aux_lemma => kernel_rfl) (by as_aux_lemma => kernel_rfl) (fun _ _ _ h => h) (Or.inl ⟨by rfl, ?_⟩) hHeld ?_
                          rotate_left
                          · intro w' hSw
                            have p0 := cell_bel hSw hpab p0
                            have q0 := cell_bel hSw hpbb q0
                            have r0 := cell_bel hSw hrb0 r0
                            obtain ⟨c0, c1, c2⟩ := (hVn.below hSw).at
                            obtain ⟨d0, d1, d2⟩ := (hVz.below hSw).at
                            have f1 := cell_bel hSw hnb f1
                            have f2 := cell_bel hSw hnb f2
                            have f3 := cell_bel hSw hnb f3
                            have f4 := cell_bel hSw hnb f4
                            have f5 := cell_bel hSw hnb f5
                            have f7 := cell_bel hSw hnb f7
                            have g0 := cell_bel hSw hzb g0
                            have g1 := cell_bel hSw hzb g1
                            have g2 := cell_bel hSw hzb g2
                            (go_simp <;> with_reducible rfl)
                          try simp only [Act.put, List.getElem_toArray, List.getElem_cons_succ, List.getElem_cons_zero, List.setIfInBounds_toArray, List.set_cons_zero, List.set_cons_succ]
                          refine wpAnyH_take (i := 83) (oi := _) (v := ?_) rfl (by as_aux_lemma => kernel_rfl) (by as_aux_lemma => kernel_rfl) (by as_aux_lemma => kernel_rfl) (fun _ _ _ h => h) (Or.inl ⟨by rfl, ?_⟩) hHeld ?_
                          rotate_left
                          · intro w' hSw
                            (go_simp <;> with_reducible rfl)
                          try simp only [Act.put, List.getElem_toArray, List.getElem_cons_succ, List.getElem_cons_zero, List.setIfInBounds_toArray, List.set_cons_zero, List.set_cons_succ]
                          refine wpAnyH_take (i := 84) (oi := _) (v := ?_) rfl (by as_aux_lemma => kernel_rfl) (by as_aux_lemma => kernel_rfl) (by as_aux_lemma => kernel_rfl) (fun _ _ _ h => h) (Or.inl ⟨by rfl, ?_⟩) hHeld ?_
                          rotate_left
                          · intro w' hSw
                            (go_simp <;> with_reducible rfl)
                          try simp only [Act.put, List.getElem_toArray, List.getElem_cons_succ, List.getElem_cons_zero, List.setIfInBounds_toArray, List.set_cons_zero, List.set_cons_succ]
                          refine wpAnyH_take (i := 85) (oi := _) (v := ?_) rfl (by as_aux_lemma => kernel_rfl) (by as_aux_lemma => kernel_rfl) (by as_aux_lemma => kernel_rfl) (fun _ _ _ h => h) (Or.inl ⟨by rfl, ?_⟩) hHeld ?_
                          rotate_left
                          · intro w' hSw
                            (go_simp <;> with_reducible rfl)
                          try simp only [Act.put, List.getElem_toArray, List.getElem_cons_succ, List.getElem_cons_zero, List.setIfInBounds_toArray, List.set_cons_zero, List.set_cons_succ]
                          refine wpAnyH_take (i := 86) (oi := _) (v := ?_) rfl (by as_aux_lemma => kernel_rfl) (by as_aux_lemma => kernel_rfl) (by as_aux_lemma => kernel_rfl) (fun _ _ _ h => h) (Or.inl ⟨by rfl, ?_⟩) hHeld ?_
                          rotate_left
                          · intro w' hSw
                            have p0 := cell_bel hSw hpab p0
                            have q0 := cell_bel hSw hpbb q0
                            have r0 := cell_bel hSw hrb0 r0
                            obtain ⟨c0, c1, c2⟩ := (hVn.below hSw).at
                            obtain ⟨d0, d1, d2⟩ := (hVz.below hSw).at
                            have f1 := cell_bel hSw hnb f1
                            have f2 := cell_bel hSw hnb f2
                            have f3 := cell_bel hSw hnb f3
                            have f4 := cell_bel hSw hnb f4
                            have f5 := cell_bel hSw hnb f5
                            have f7 := cell_bel hSw hnb f7
                            have g0 := cell_bel hSw hzb g0
                            have g1 := cell_bel hSw hzb g1
                            have g2 := cell_bel hSw hzb g2
                            (go_simp <;> with_reducible rfl)
                          try simp only [Act.put, List.getElem_toArray, List.getElem_cons_succ, List.getElem_cons_zero, List.setIfInBounds_toArray, List.set_cons_zero, List.set_cons_succ]
                          refine wpAnyH_take (i := 87) (oi := _) (v := ?_) rfl (by as_aux_lemma => kernel_rfl) (by as_aux_lemma => kernel_rfl) (by as_aux_lemma => kernel_rfl) (fun _ _ _ h => h) (Or.inl ⟨by rfl, ?_⟩) hHeld ?_
                          rotate_left
                          · intro w' hSw
                            (go_simp <;> with_reducible rfl)
                          try simp only [Act.put, List.getElem_toArray, List.getElem_cons_succ, List.getElem_cons_zero, List.setIfInBounds_toArray, List.set_cons_zero, List.set_cons_succ]
                          refine wpAnyH_take (i := 88) (oi := _) (v := ?_) rfl (by as_aux_lemma => kernel_rfl) (by as_aux_lemma => kernel_rfl) (by as_aux_lemma => kernel_rfl) (fun _ _ _ h => h) (Or.inl ⟨by rfl, ?_⟩) hHeld ?_
                          rotate_left
                          · intro w' hSw
                            have p0 := cell_bel hSw hpab p0
                            have q0 := cell_bel hSw hpbb q0
                            have r0 := cell_bel hSw hrb0 r0
                            obtain ⟨c0, c1, c2⟩ := (hVn.below hSw).at
                            obtain ⟨d0, d1, d2⟩ := (hVz.below hSw).at
                            have f1 := cell_bel hSw hnb f1
                            have f2 := cell_bel hSw hnb f2
                            have f3 := cell_bel hSw hnb f3
                            have f4 := cell_bel hSw hnb f4
                            have f5 := cell_bel hSw hnb f5
                            have f7 := cell_bel hSw hnb f7
                            have g0 := cell_bel hSw hzb g0
                            have g1 := cell_bel hSw hzb g1
                            have g2 := cell_bel hSw hzb g2
                            (go_simp <;> with_reducible rfl)
                          try simp only [Act.put, List.getElem_toArray, List.getElem_cons_succ, List.getElem_cons_zero, List.setIfInBounds_toArray, List.set_cons_zero, List.set_cons_succ]
                          refine wpAnyH_take (i := 89) (oi := _) (v := ?_) rfl (by as_aux_lemma => kernel_rfl) (by as_aux_lemma => kernel_rfl) (by as_aux_lemma => kernel_rfl) (fun _ _ _ h => h) (Or.inl ⟨by rfl, ?_⟩) hHeld ?_
                          rotate_left
                          · intro w' hSw
                            (go_simp <;> with_reducible rfl)
                          try simp only [Act.put, List.getElem_toArray, List.getElem_cons_succ, List.getElem_cons_zero, List.setIfInBounds_toArray, List.set_cons_zero, List.set_cons_succ]
                          refine wpAnyH_take (i := 90) (oi := _) (v := ?_) rfl (by as_aux_lemma => kernel_rfl) (by as_aux_lemma => kernel_rfl) (by as_aux_lemma => kernel_rfl) (fun _ _ _ h => h) (Or.inl ⟨by rfl, ?_⟩) hHeld ?_
                          rotate_left
                          · intro w' hSw
                            (go_simp <;> with_reducible rfl)
                          try simp only [Act.put, List.getElem_toArray, List.getElem_cons_succ, List.getElem_cons_zero, List.setIfInBounds_toArray, List.set_cons_zero, List.set_cons_succ]
                          refine wpAnyH_take (i := 91) (oi := _) (v := ?_) rfl (by as_aux_lemma => kernel_rfl) (by as_aux_lemma => kernel_rfl) (by as_aux_lemma => kernel_rfl) (fun _ _ _ h => h) (Or.inl ⟨by rfl, ?_⟩) hHeld ?_
                          rotate_left
                          · intro w' hSw
                            (go_simp <;> with_reducible rfl)
                          try simp only [Act.put, List.getElem_toArray, List.getElem_cons_succ, List.getElem_cons_zero, List.setIfInBounds_toArray, List.set_cons_zero, List.set_cons_succ]
                          refine wpAnyH_take (i := 92) (oi := _) (v := ?_) rfl (by as_aux_lemma => kernel_rfl) (by as_aux_lemma => kernel_rfl) (by as_aux_lemma => kernel_rfl) (fun _ _ _ h => h) (Or.inl ⟨by rfl, ?_⟩) hHeld ?_
                          rotate_left
                          · intro w' hSw
                            have p0 := cell_bel hSw hpab p0
                            have q0 := cell_bel hSw hpbb q0
                            have r0 := cell_bel hSw hrb0 r0
                            obtain ⟨c0, c1, c2⟩ := (hVn.below hSw).at
                            obtain ⟨d0, d1, d2⟩ := (hVz.below hSw).at
                            have f1 := cell_bel hSw hnb f1
                            have f2 := cell_bel hSw hnb f2
                            have f3 := cell_bel hSw hnb f3
                            have f4 := cell_bel hSw hnb f4
                            have f5 := cell_bel hSw hnb f5
                            have f7 := cell_bel hSw hnb f7
                            have g0 := cell_bel hSw hzb g0
                            have g1 := cell_bel hSw hzb g1
                            have g2 := cell_bel hSw hzb g2
                            (go_simp <;> with_reducible rfl)
                          try simp only [Act.put, List.getElem_toArray, List.getElem_cons_succ, List.getElem_cons_zero, List.setIfInBounds_toArray, List.set_cons_zero, List.set_cons_succ]
                          refine wpAnyH_take (i := 93) (oi := _) (v := ?_) rfl (by as_aux_lemma => kernel_rfl) (by as_aux_lemma => kernel_rfl) (by as_aux_lemma => kernel_rfl) (fun _ _ _ h => h) (Or.inl ⟨by rfl, ?_⟩) hHeld ?_
                          rotate_left
                          · intro w' hSw
                            (go_simp <;> with_reducible rfl)
                          try simp only [Act.put, List.getElem_toArray, List.getElem_cons_succ, List.getElem_cons_zero, List.setIfInBounds_toArray, List.set_cons_zero, List.set_cons_succ]
                          refine wpAnyH_take (i := 94) (oi := _) (v := ?_) rfl (by as_aux_lemma => kernel_rfl) (by as_aux_lemma => kernel_rfl) (by as_aux_lemma => kernel_rfl) (fun _ _ _ h => h) (Or.inl ⟨by rfl, ?_⟩) hHeld ?_
                          rotate_left
                          · intro w' hSw
                            (go_simp <;> with_reducible rfl)
                          try simp only [Act.put, List.getElem_toArray, List.getElem_cons_succ, List.getElem_cons_zero, List.setIfInBounds_toArray, List.set_cons_zero, List.set_cons_succ]
                          refine wpAnyH_done (by as_aux_lemma => kernel_rfl) ?_ _
                          have bd := bel_call hbx (Nat.le_refl _) (Below.refl _ W1).drew
                          go_wp2
                          go_roundw
                          case rel => exact ⟨j + 1, cn + 1, by omega, by go_num, by go_num, HC2.out, bd⟩
                          case measure => simp [intOf]; omega
                      · have y1 : (Xz.k == 1) = false := by simpa using hk1
                        have y2 : decide (Xz.k = 1) = false := by simpa using hk1
                        have y3 : Xn.c = 0 := by rw [HNC.out, if_neg hk1]
                        rw [y3] at f3
                        clear hk1 y3
                        as_aux_lemma =>
                          go_upto_region 35 with fail
                          try simp only [List.append]
                          obtain ⟨W1, hW1⟩ : ∃ W1, W1 = wr := ⟨_, rfl⟩
                          subst hW1
                          refine wp_region_held_drew (S := fun w' => Below W1.heap.size W1 w') (by as_aux_lemma => kernel_rfl) (Below.refl _ _).drew (fun hHeld => ?_)
                          refine wpAnyH_take (i := 0) (oi := _) (v := ?_) rfl (by as_aux_lemma => kernel_rfl) (by as_aux_lemma => kernel_rfl) (by as_aux_lemma => kernel_rfl) (fun _ _ _ h => h) (Or.inl ⟨by rfl, ?_⟩) hHeld ?_
                          rotate_left
                          · intro w' hSw
                            (go_simp <;> with_reducible rfl)
                          try simp only [Act.put, List.getElem_toArray, List.getElem_cons_zero, List.setIfInBounds_toArray, List.set_cons_zero, List.set_cons_succ]
                          refine wpAnyH_take (i := 1) (oi := _) (v := ?_) rfl (by as_aux_lemma => kernel_rfl) (by as_aux_lemma => kernel_rfl) (by as_aux_lemma => kernel_rfl) (fun _ _ _ h => h) (Or.inl ⟨by rfl, ?_⟩) hHeld ?_
                          rotate_left
                          · intro w' hSw
                            (go_simp <;> with_reducible rfl)
                          try simp only [Act.put, List.getElem_toArray, List.getElem_cons_succ, List.getElem_cons_zero, List.setIfInBounds_toArray, List.set_cons_zero, List.set_cons_succ]
                          refine wpAnyH_take (i := 2) (oi := _) (v := ?_) rfl (by as_aux_lemma => kernel_rfl) (by as_aux_lemma => kernel_rfl) (by as_aux_lemma => kernel_rfl) (fun _ _ _ h => h) (Or.inl ⟨by rfl, ?_⟩) hHeld ?_
                          rotate_left
                          · intro w' hSw
                            (go_simp <;> with_reducible rfl)
                          try simp only [Act.put, List.getElem_toArray, List.getElem_cons_succ, List.getElem_cons_zero, List.setIfInBounds_toArray, List.set_cons_zero, List.set_cons_succ]
                          refine wpAnyH_take (i := 3) (oi := _) (v := ?_) rfl (by as_aux_lemma => kernel_rfl) (by as_aux_lemma => kernel_rfl) (by as_aux_lemma => kernel_rfl) (fun _ _ _ h => h) (Or.inl ⟨by rfl, ?_⟩) hHeld ?_
                          rotate_left
                          · intro w' hSw
                            (go_simp <;> with_reducible rfl)
                          try simp only [Act.put, List.getElem_toArray, List.getElem_cons_succ, List.getElem_cons_zero, List.setIfInBounds_toArray, List.set_cons_zero, List.set_cons_succ]
                          refine wpAnyH_take (i := 4) (oi := _) (v := ?_) rfl (by as_aux_lemma => kernel_rfl) (by as_aux_lemma => kernel_rfl) (by as_aux_lemma => kernel_rfl) (fun _ _ _ h => h) (Or.inl ⟨by rfl, ?_⟩) hHeld ?_
                          rotate_left
                          · intro w' hSw
                            (go_simp <;> with_reducible rfl)
                          try simp only [Act.put, List.getElem_toArray, List.getElem_cons_succ, List.getElem_cons_zero, List.setIfInBounds_toArray, List.set_cons_zero, List.set_cons_succ]
                          refine wpAnyH_take (i := 5) (oi := _) (v := ?_) rfl (by as_aux_lemma => kernel_rfl) (by as_aux_lemma => kernel_rfl) (by as_aux_lemma => kernel_rfl) (fun _ _ _ h => h) (Or.inl ⟨by rfl, ?_⟩) hHeld ?_
                          rotate_left
                          · intro w' hSw
                            (go_simp <;> with_reducible rfl)
                          try simp only [Act.put, List.getElem_toArray, List.getElem_cons_succ, List.getElem_cons_zero, List.setIfInBounds_toArray, List.set_cons_zero, List.set_cons_succ]
                          refine wpAnyH_take (i := 6) (oi := _) (v := ?_) rfl (by as_aux_lemma => kernel_rfl) (by as_aux_lemma => kernel_rfl) (by as_aux_lemma => kernel_rfl) (fun _ _ _ h => h) (Or.inl ⟨by rfl, ?_⟩) hHeld ?_
                          rotate_left
                          · intro w' hSw
                            (go_simp <;> with_reducible rfl)
                          try simp only [Act.put, List.getElem_toArray, List.getElem_cons_succ, List.getElem_cons_zero, List.setIfInBounds_toArray, List.set_cons_zero, List.set_cons_succ]
                          refine wpAnyH_take (i := 7) (oi := _) (v := ?_) rfl (by as_aux_lemma => kernel_rfl) (by as_aux_lemma => kernel_rfl) (by as_aux_lemma => kernel_rfl) (fun _ _ _ h => h) (Or.inl ⟨by rfl, ?_⟩) hHeld ?_
                          rotate_left
                          · intro w' hSw
                            (go_simp <;> with_reducible rfl)
                          try simp only [Act.put, List.getElem_toArray, List.getElem_cons_succ, List.getElem_cons_zero, List.setIfInBounds_toArray, List.set_cons_zero, List.set_cons_succ]
                          refine wpAnyH_take (i := 8) (oi := _) (v := ?_) rfl (by as_aux_lemma => kernel_rfl) (by as_aux_lemma => kernel_rfl) (by as_aux_lemma => kernel_rfl) (fun _ _ _ h => h) (Or.inl ⟨by rfl, ?_⟩) hHeld ?_
                          rotate_left
                          · intro w' hSw
                            have p0 := cell_bel hSw hpab p0
                            have q0 := cell_bel hSw hpbb q0
                            have r0 := cell_bel hSw hrb0 r0
                            obtain ⟨c0, c1, c2⟩ := (hVn.below hSw).at
                            obtain ⟨d0, d1, d2⟩ := (hVz.below hSw).at
                            have f1 := cell_bel hSw hnb f1
                            have f2 := cell_bel hSw hnb f2
                            have f3 := cell_bel hSw hnb f3
                            have f4 := cell_bel hSw hnb f4
                            have f5 := cell_bel hSw hnb f5
                            have f7 := cell_bel hSw hnb f7
                            have g0 := cell_bel hSw hzb g0
                            have g1 := cell_bel hSw hzb g1
                            have g2 := cell_bel hSw hzb g2
                            (go_simp <;> with_reducible rfl)
                          try simp only [Act.put, List.getElem_toArray, List.getElem_cons_succ, List.getElem_cons_zero, List.setIfInBounds_toArray, List.set_cons_zero, List.set_cons_succ]
                          refine wpAnyH_take (i := 9) (oi := _) (v := ?_) rfl (by as_aux_lemma => kernel_rfl) (by as_aux_lemma => kernel_rfl) (by as_aux_lemma => kernel_rfl) (fun _ _ _ h => h) (Or.inl ⟨by rfl, ?_⟩) hHeld ?_
                          rotate_left
                          · intro w' hSw
                            (go_simp <;> with_reducible rfl)
                          try simp only [Act.put, List.getElem_toArray, List.getElem_cons_succ, List.getElem_cons_zero, List.setIfInBounds_toArray, List.set_cons_zero, List.set_cons_succ]
                          refine wpAnyH_take (i := 10) (oi := _) (v := ?_) rfl (by as_aux_lemma => kernel_rfl) (by as_aux_lemma => kernel_rfl) (by as_aux_lemma => kernel_rfl) (fun _ _ _ h => h) (Or.inl ⟨by rfl, ?_⟩) hHeld ?_
                          rotate_left
                          · intro w' hSw
                            (go_simp <;> with_reducible rfl)
                          try simp only [Act.put, List.getElem_toArray, List.getElem_cons_succ, List.getElem_cons_zero, List.setIfInBounds_toArray, List.set_cons_zero, List.set_cons_succ]
                          refine wpAnyH_take (i := 11) (oi := _) (v := ?_) rfl (by as_aux_lemma => kernel_rfl) (by as_aux_lemma => kernel_rfl) (by as_aux_lemma => kernel_rfl) (fun _ _ _ h => h) (Or.inl ⟨by rfl, ?_⟩) hHeld ?_
                          rotate_left
                          · intro w' hSw
                            (go_simp <;> with_reducible rfl)
                          try simp only [Act.put, List.getElem_toArray, List.getElem_cons_succ, List.getElem_cons_zero, List.setIfInBounds_toArray, List.set_cons_zero, List.set_cons_succ]
                          refine wpAnyH_take (i := 12) (oi := _) (v := ?_) rfl (by as_aux_lemma => kernel_rfl) (by as_aux_lemma => kernel_rfl) (by as_aux_lemma => kernel_rfl) (fun _ _ _ h => h) (Or.inl ⟨by rfl, ?_⟩) hHeld ?_
                          rotate_left
                          · intro w' hSw
                            (go_simp <;> with_reducible rfl)
                          try simp only [Act.put, List.getElem_toArray, List.getElem_cons_succ, List.getElem_cons_zero, List.setIfInBounds_toArray, List.set_cons_zero, List.set_cons_succ]
                          refine wpAnyH_take (i := 13) (oi := _) (v := ?_) rfl (by as_aux_lemma => kernel_rfl) (by as_aux_lemma => kernel_rfl) (by as_aux_lemma => kernel_rfl) (fun _ _ _ h => h) (Or.inl ⟨by rfl, ?_⟩) hHeld ?_
                          rotate_left
                          · intro w' hSw
                            (go_simp <;> with_reducible rfl)
                          try simp only [Act.put, List.getElem_toArray, List.getElem_cons_succ, List.getElem_cons_zero, List.setIfInBounds_toArray, List.set_cons_zero, List.set_cons_succ]
                          refine wpAnyH_take (i := 14) (oi := _) (v := ?_) rfl (by as_aux_lemma => kernel_rfl) (by as_aux_lemma => kernel_rfl) (by as_aux_lemma => kernel_rfl) (fun _ _ _ h => h) (Or.inl ⟨by rfl, ?_⟩) hHeld ?_
                          rotate_left
                          · intro w' hSw
                            (go_simp <;> with_reducible rfl)
                          try simp only [Act.put, List.getElem_toArray, List.getElem_cons_succ, List.getElem_cons_zero, List.setIfInBounds_toArray, List.set_cons_zero, List.set_cons_succ]
                          refine wpAnyH_take (i := 15) (oi := _) (v := ?_) rfl (by as_aux_lemma => kernel_rfl) (by as_aux_lemma => kernel_rfl) (by as_aux_lemma => kernel_rfl) (fun _ _ _ h => h) (Or.inl ⟨by rfl, ?_⟩) hHeld ?_
                          rotate_left
                          · intro w' hSw
                            (go_simp <;> with_reducible rfl)
                          try simp only [Act.put, List.getElem_toArray, List.getElem_cons_succ, List.getElem_cons_zero, List.setIfInBounds_toArray, List.set_cons_zero, List.set_cons_succ]
                          refine wpAnyH_take (i := 16) (oi := _) (v := ?_) rfl (by as_aux_lemma => kernel_rfl) (by as_aux_lemma => kernel_rfl) (by as_aux_lemma => kernel_rfl) (fun _ _ _ h => h) (Or.inl ⟨by rfl, ?_⟩) hHeld ?_
                          rotate_left
                          · intro w' hSw
                            have p0 := cell_bel hSw hpab p0
                            have q0 := cell_bel hSw hpbb q0
                            have r0 := cell_bel hSw hrb0 r0
                            obtain ⟨c0, c1, c2⟩ := (hVn.below hSw).at
                            obtain ⟨d0, d1, d2⟩ := (hVz.below hSw).at
                            have f1 := cell_bel hSw hnb f1
                            have f2 := cell_bel hSw hnb f2
                            have f3 := cell_bel hSw hnb f3
                            have f4 := cell_bel hSw hnb f4
                            have f5 := cell_bel hSw hnb f5
                            have f7 := cell_bel hSw hnb f7
                            have g0 := cell_bel hSw hzb g0
                            have g1 := cell_bel hSw hzb g1
                            have g2 := cell_bel hSw hzb g2
                            (go_simp <;> with_reducible rfl)
                          try simp only [Act.put, List.getElem_toArray, List.getElem_cons_succ, List.getElem_cons_zero, List.setIfInBounds_toArray, List.set_cons_zero, List.set_cons_succ]
                          refine wpAnyH_take (i := 17) (oi := _) (v := ?_) rfl (by as_aux_lemma => kernel_rfl) (by as_aux_lemma => kernel_rfl) (by as_aux_lemma => kernel_rfl) (fun _ _ _ h => h) (Or.inl ⟨by rfl, ?_⟩) hHeld ?_
                          rotate_left
                          · intro w' hSw
                            (go_simp <;> with_reducible rfl)
                          try simp only [Act.put, List.getElem_toArray, List.getElem_cons_succ, List.getElem_cons_zero, List.setIfInBounds_toArray, List.set_cons_zero, List.set_cons_succ]
                          refine wpAnyH_take (i := 18) (oi := _) (v := ?_) rfl (by as_aux_lemma => kernel_rfl) (by as_aux_lemma => kernel_rfl) (by as_aux_lemma => kernel_rfl) (fun _ _ _ h => h) (Or.inl ⟨by rfl, ?_⟩) hHeld ?_
                          rotate_left
                          · intro w' hSw
                            (go_simp <;> with_reducible rfl)
                          try simp only [Act.put, List.getElem_toArray, List.getElem_cons_succ, List.getElem_cons_zero, List.setIfInBounds_toArray, List.set_cons_zero, List.set_cons_succ]
                          refine wpAnyH_take (i := 19) (oi := _) (v := ?_) rfl (by as_aux_lemma => kernel_rfl) (by as_aux_lemma => kernel_rfl) (by as_aux_lemma => kernel_rfl) (fun _ _ _ h => h) (Or.inl ⟨by rfl, ?_⟩) hHeld ?_
                          rotate_left
                          · intro w' hSw
                            (go_simp <;> with_reducible rfl)
                          try simp only [Act.put, List.getElem_toArray, List.getElem_cons_succ, List.getElem_cons_zero, List.setIfInBounds_toArray, List.set_cons_zero, List.set_cons_succ]
                          refine wpAnyH_take (i := 20) (oi := _) (v := ?_) rfl (by as_aux_lemma => kernel_rfl) (by as_aux_lemma => kernel_rfl) (by as_aux_lemma => kernel_rfl) (fun _ _ _ h => h) (Or.inl ⟨by rfl, ?_⟩) hHeld ?_
                          rotate_left
                          · intro w' hSw
                            (go_simp <;> with_reducible rfl)
                          try simp only [Act.put, List.getElem_toArray, List.getElem_cons_succ, List.getElem_cons_zero, List.setIfInBounds_toArray, List.set_cons_zero, List.set_cons_succ]
                          refine wpAnyH_take (i := 21) (oi := _) (v := ?_) rfl (by as_aux_lemma => kernel_rfl) (by as_aux_lemma => kernel_rfl) (by as_aux_lemma => kernel_rfl) (fun _ _ _ h => h) (Or.inl ⟨by rfl, ?_⟩) hHeld ?_
                          rotate_left
                          · intro w' hSw
                            (go_simp <;> with_reducible rfl)
                          try simp only [Act.put, List.getElem_toArray, List.getElem_cons_succ, List.getElem_cons_zero, List.setIfInBounds_toArray, List.set_cons_zero, List.set_cons_succ]
                          refine wpAnyH_take (i := 22) (oi := _) (v := ?_) rfl (by as_aux_lemma => kernel_rfl) (by as_aux_lemma => kernel_rfl) (by as_aux_lemma => kernel_rfl) (fun _ _ _ h => h) (Or.inl ⟨by rfl, ?_⟩) hHeld ?_
                          rotate_left
                          · intro w' hSw
                            (go_simp <;> with_reducible rfl)
                          try simp only [Act.put, List.getElem_toArray, List.getElem_cons_succ, List.getElem_cons_zero, List.setIfInBounds_toArray, List.set_cons_zero, List.set_cons_succ]
                          refine wpAnyH_take (i := 23) (oi := _) (v := ?_) rfl (by as_aux_lemma => kernel_rfl) (by as_aux_lemma => kernel_rfl) (by as_aux_lemma => kernel_rfl) (fun _ _ _ h => h) (Or.inl ⟨by rfl, ?_⟩) hHeld ?_
                          rotate_left
                          · intro w' hSw
                            (go_simp <;> with_reducible rfl)
                          try simp only [Act.put, List.getElem_toArray, List.getElem_cons_succ, List.getElem_cons_zero, List.setIfInBounds_toArray, List.set_cons_zero, List.set_cons_succ]
                          refine wpAnyH_take (i := 24) (oi := _) (v := ?_) rfl (by as_aux_lemma => kernel_rfl) (by as_aux_lemma => kernel_rfl) (by as_aux_lemma => kernel_rfl) (fun _ _ _ h => h) (Or.inl ⟨by rfl, ?_⟩) hHeld ?_
                          rotate_left
                          · intro w' hSw
                            have p0 := cell_bel hSw hpab p0
                            have q0 := cell_bel hSw hpbb q0
                            have r0 := cell_bel hSw hrb0 r0
                            obtain ⟨c0, c1, c2⟩ := (hVn.below hSw).at
                            obtain ⟨d0, d1, d2⟩ := (hVz.below hSw).at
                            have f1 := cell_bel hSw hnb f1
                            have f2 := cell_bel hSw hnb f2
                            have f3 := cell_bel hSw hnb f3
                            have f4 := cell_bel hSw hnb f4
                            have f5 := cell_bel hSw hnb f5
                            have f7 := cell_bel hSw hnb f7
                            have g0 := cell_bel hSw hzb g0
                            have g1 := cell_bel hSw hzb g1
                            have g2 := cell_bel hSw hzb g2
                            (go_simp <;> with_reducible rfl)
                          try simp only [Act.put, List.getElem_toArray, List.getElem_cons_succ, List.getElem_cons_zero, List.setIfInBounds_toArray, List.set_cons_zero, List.set_cons_succ]
                          refine wpAnyH_take (i := 25) (oi := _) (v := ?_) rfl (by as_aux_lemma => kernel_rfl) (by as_aux_lemma => kernel_rfl) (by as_aux_lemma => kernel_rfl) (fun _ _ _ h => h) (Or.inl ⟨by rfl, ?_⟩) hHeld ?_
                          rotate_left
                          · intro w' hSw
                            (go_simp <;> with_reducible rfl)
                          try simp only [Act.put, List.getElem_toArray, List.getElem_cons_succ, List.getElem_cons_zero, List.setIfInBounds_toArray, List.set_cons_zero, List.set_cons_succ]
                          refine wpAnyH_take (i := 26) (oi := _) (v := ?_) rfl (by as_aux_lemma => kernel_rfl) (by as_aux_lemma => kernel_rfl) (by as_aux_lemma => kernel_rfl) (fun _ _ _ h => h) (Or.inl ⟨by rfl, ?_⟩) hHeld ?_
                          rotate_left
                          · intro w' hSw
                            have p0 := cell_bel hSw hpab p0
                            have q0 := cell_bel hSw hpbb q0
                            have r0 := cell_bel hSw hrb0 r0
                            obtain ⟨c0, c1, c2⟩ := (hVn.below hSw).at
                            obtain ⟨d0, d1, d2⟩ := (hVz.below hSw).at
                            have f1 := cell_bel hSw hnb f1
                            have f2 := cell_bel hSw hnb f2
                            have f3 := cell_bel hSw hnb f3
                            have f4 := cell_bel hSw hnb f4
                            have f5 := cell_bel hSw hnb f5
                            have f7 := cell_bel hSw hnb f7
                            have g0 := cell_bel hSw hzb g0
                            have g1 := cell_bel hSw hzb g1
                            have g2 := cell_bel hSw hzb g2
                            (go_simp <;> with_reducible rfl)
                          try simp only [Act.put, List.getElem_toArray, List.getElem_cons_succ, List.getElem_cons_zero, List.setIfInBounds_toArray, List.set_cons_zero, List.set_cons_succ]
                          refine wpAnyH_take (i := 27) (oi := _) (v := ?_) rfl (by as_aux_lemma => kernel_rfl) (by as_aux_lemma => kernel_rfl) (by as_aux_lemma => kernel_rfl) (fun _ _ _ h => h) (Or.inl ⟨by rfl, ?_⟩) hHeld ?_
                          rotate_left
                          · intro w' hSw
                            (go_simp <;> with_reducible rfl)
                          try simp only [Act.put, List.getElem_toArray, List.getElem_cons_succ, List.getElem_cons_zero, List.setIfInBounds_toArray, List.set_cons_zero, List.set_cons_succ]
                          refine wpAnyH_take (i := 28) (oi := _) (v := ?_) rfl (by as_aux_lemma => kernel_rfl) (by as_aux_lemma => kernel_rfl) (by as_aux_lemma => kernel_rfl) (fun _ _ _ h => h) (Or.inl ⟨by rfl, ?_⟩) hHeld ?_
                          rotate_left
                          · intro w' hSw
                            (go_simp <;> with_reducible rfl)
                          try simp only [Act.put, List.getElem_toArray, List.getElem_cons_succ, List.getElem_cons_zero, List.setIfInBounds_toArray, List.set_cons_zero, List.set_cons_succ]
                          refine wpAnyH_take (i := 29) (oi := _) (v := ?_) rfl (by as_aux_lemma => kernel_rfl) (by as_aux_lemma => kernel_rfl) (by as_aux_lemma => kernel_rfl) (fun _ _ _ h => h) (Or.inl ⟨by rfl, ?_⟩) hHeld ?_
                          rotate_left
                          · intro w' hSw
                            (go_simp <;> with_reducible rfl)
                          try simp only [Act.put, List.getElem_toArray, List.getElem_cons_succ, List.getElem_cons_zero, List.setIfInBounds_toArray, List.set_cons_zero, List.set_cons_succ]
                          refine wpAnyH_take (i := 30) (oi := _) (v := ?_) rfl (by as_aux_lemma => kernel_rfl) (by as_aux_lemma => kernel_rfl) (by as_aux_lemma => kernel_rfl) (fun _ _ _ h => h) (Or.inl ⟨by rfl, ?_⟩) hHeld ?_
                          rotate_left
                          · intro w' hSw
                            (go_simp <;> with_reducible rfl)
                          try simp only [Act.put, List.getElem_toArray, List.getElem_cons_succ, List.getElem_cons_zero, List.setIfInBounds_toArray, List.set_cons_zero, List.set_cons_succ]
                          refine wpAnyH_take (i := 31) (oi := _) (v := ?_) rfl (by as_aux_lemma => kernel_rfl) (by as_aux_lemma => kernel_rfl) (by as_aux_lemma => kernel_rfl) (fun _ _ _ h => h) (Or.inl ⟨by rfl, ?_⟩) hHeld ?_
                          rotate_left
                          · intro w' hSw
                            (go_simp <;> with_reducible rfl)
                          try simp only [Act.put, List.getElem_toArray, List.getElem_cons_succ, List.getElem_cons_zero, List.setIfInBounds_toArray, List.set_cons_zero, List.set_cons_succ]
                          refine wpAnyH_take (i := 32) (oi := _) (v := ?_) rfl (by as_aux_lemma => kernel_rfl) (by as_aux_lemma => kernel_rfl) (by as_aux_lemma => kernel_rfl) (fun _ _ _ h => h) (Or.inl ⟨by rfl, ?_⟩) hHeld ?_
                          rotate_left
                          · intro w' hSw
                            (go_simp <;> with_reducible rfl)
                          try simp only [Act.put, List.getElem_toArray, List.getElem_cons_succ, List.getElem_cons_zero, List.setIfInBounds_toArray, List.set_cons_zero, List.set_cons_succ]
                          refine wpAnyH_take (i := 33) (oi := _) (v := ?_) rfl (by as_aux_lemma => kernel_rfl) (by as_aux_lemma => kernel_rfl) (by as_aux_lemma => kernel_rfl) (fun _ _ _ h => h) (Or.inl ⟨by rfl, ?_⟩) hHeld ?_
                          rotate_left
                          · intro w' hSw
                            have p0 := cell_bel hSw hpab p0
                            have q0 := cell_bel hSw hpbb q0
                            have r0 := cell_bel hSw hrb0 r0
                            obtain ⟨c0, c1, c2⟩ := (hVn.below hSw).at
                            obtain ⟨d0, d1, d2⟩ := (hVz.below hSw).at
                            have f1 := cell_bel hSw hnb f1
                            have f2 := cell_bel hSw hnb f2
                            have f3 := cell_bel hSw hnb f3
                            have f4 := cell_bel hSw hnb f4
                            have f5 := cell_bel hSw hnb f5
                            have f7 := cell_bel hSw hnb f7
                            have g0 := cell_bel hSw hzb g0
                            have g1 := cell_bel hSw hzb g1
                            have g2 := cell_bel hSw hzb g2
                            (go_simp <;> with_reducible rfl)
                          try simp only [Act.put, List.getElem_toArray, List.getElem_cons_succ, List.getElem_cons_zero, List.setIfInBounds_toArray, List.set_cons_zero, List.set_cons_succ]
                          refine wpAnyH_take (i := 34) (oi := _) (v := ?_) rfl (by as_aux_lemma => kernel_rfl) (by as_aux_lemma => kernel_rfl) (by as_aux_lemma => kernel_rfl) (fun _ _ _ h => h) (Or.inl ⟨by rfl, ?_⟩) hHeld ?_
                          rotate_left
                          · intro w' hSw
                            (go_simp <;> with_reducible rfl)
                          try simp only [Act.put, List.getElem_toArray, List.getElem_cons_succ, List.getElem_cons_zero, List.setIfInBounds_toArray, List.set_cons_zero, List.set_cons_succ]
                          refine wpAnyH_take (i := 35) (oi := _) (v := ?_) rfl (by as_aux_lemma => kernel_rfl) (by as_aux_lemma => kernel_rfl) (by as_aux_lemma => kernel_rfl) (fun _ _ _ h => h) (Or.inl ⟨by rfl, ?_⟩) hHeld ?_
                          rotate_left
                          · intro w' hSw
                            (go_simp <;> with_reducible rfl)
                          try simp only [Act.put, List.getElem_toArray, List.getElem_cons_succ, List.getElem_cons_zero, List.setIfInBounds_toArray, List.set_cons_zero, List.set_cons_succ]
                          refine wpAnyH_take (i := 36) (oi := _) (v := ?_) rfl (by as_aux_lemma => kernel_rfl) (by as_aux_lemma => kernel_rfl) (by as_aux_lemma => kernel_rfl) (fun _ _ _ h => h) (Or.inl ⟨by rfl, ?_⟩) hHeld ?_
                          rotate_left
                          · intro w' hSw
                            (go_simp <;> with_reducible rfl)
                          try simp only [Act.put, List.getElem_toArray, List.getElem_cons_succ, List.getElem_cons_zero, List.setIfInBounds_toArray, List.set_cons_zero, List.set_cons_succ]
                          refine wpAnyH_take (i := 37) (oi := _) (v := ?_) rfl (by as_aux_lemma => kernel_rfl) (by as_aux_lemma => kernel_rfl) (by as_aux_lemma => kernel_rfl) (fun _ _ _ h => h) (Or.inl ⟨by rfl, ?_⟩) hHeld ?_
                          rotate_left
                          · intro w' hSw
                            (go_simp <;> with_reducible rfl)
                          try simp only [Act.put, List.getElem_toArray, List.getElem_cons_succ, List.getElem_cons_zero, List.setIfInBounds_toArray, List.set_cons_zero, List.set_cons_succ]
                          refine wpAnyH_take (i := 38) (oi := _) (v := ?_) rfl (by as_aux_lemma => kernel_rfl) (by as_aux_lemma => kernel_rfl) (by as_aux_lemma => kernel_rfl) (fun _ _ _ h => h) (Or.inl ⟨by rfl, ?_⟩) hHeld ?_
                          rotate_left
                          · intro w' hSw
                            have p0 := cell_bel hSw hpab p0
                            have q0 := cell_bel hSw hpbb q0
                            have r0 := cell_bel hSw hrb0 r0
                            obtain ⟨c0, c1, c2⟩ := (hVn.below hSw).at
                            obtain ⟨d0, d1, d2⟩ := (hVz.below hSw).at
                            have f1 := cell_bel hSw hnb f1
                            have f2 := cell_bel hSw hnb f2
                            have f3 := cell_bel hSw hnb f3
                            have f4 := cell_bel hSw hnb f4
                            have f5 := cell_bel hSw hnb f5
                            have f7 := cell_bel hSw hnb f7
                            have g0 := cell_bel hSw hzb g0
                            have g1 := cell_bel hSw hzb g1
                            have g2 := cell_bel hSw hzb g2
                            (go_simp <;> with_reducible rfl)
                          try simp only [Act.put, List.getElem_toArray, List.getElem_cons_succ, List.getElem_cons_zero, List.setIfInBounds_toArray, List.set_cons_zero, List.set_cons_succ]
                          refine wpAnyH_take (i := 39) (oi := _) (v := ?_) rfl (by as_aux_lemma => kernel_rfl) (by as_aux_lemma => kernel_rfl) (by as_aux_lemma => kernel_rfl) (fun _ _ _ h => h) (Or.inl ⟨by rfl, ?_⟩) hHeld ?_
                          rotate_left
                          · intro w' hSw
                            (go_simp <;> with_reducible rfl)
                          try simp only [Act.put, List.getElem_toArray, List.getElem_cons_succ, List.getElem_cons_zero, List.setIfInBounds_toArray, List.set_cons_zero, List.set_cons_succ]
                          refine wpAnyH_take (i := 40) (oi := _) (v := ?_) rfl (by as_aux_lemma => kernel_rfl) (by as_aux_lemma => kernel_rfl) (by as_aux_lemma => kernel_rfl) (fun _ _ _ h => h) (Or.inl ⟨by rfl, ?_⟩) hHeld ?_
                          rotate_left
                          · intro w' hSw
                            (go_simp <;> with_reducible rfl)
                          try simp only [Act.put, List.getElem_toArray, List.getElem_cons_succ, List.getElem_cons_zero, List.setIfInBounds_toArray, List.set_cons_zero, List.set_cons_succ]
                          refine wpAnyH_take (i := 41) (oi := _) (v := ?_) rfl (by as_aux_lemma => kernel_rfl) (by as_aux_lemma => kernel_rfl) (by as_aux_lemma => kernel_rfl) (fun _ _ _ h => h) (Or.inl ⟨by rfl, ?_⟩) hHeld ?_
                          rotate_left
                          · intro w' hSw
                            (go_simp <;> with_reducible rfl)
                          try simp only [Act.put, List.getElem_toArray, List.getElem_cons_succ, List.getElem_cons_zero, List.setIfInBounds_toArray, List.set_cons_zero, List.set_cons_succ]
                          refine wpAnyH_take (i := 42) (oi := _) (v := ?_) rfl (by as_aux_lemma => kernel_rfl) (by as_aux_lemma => kernel_rfl) (by as_aux_lemma => kernel_rfl) (fun _ _ _ h => h) (Or.inl ⟨by rfl, ?_⟩) hHeld ?_
                          rotate_left
                          · intro w' hSw
                            (go_simp <;> with_reducible rfl)
                          try simp only [Act.put, List.getElem_toArray, List.getElem_cons_succ, List.getElem_cons_zero, List.setIfInBounds_toArray, List.set_cons_zero, List.set_cons_succ]
                          refine wpAnyH_take (i := 43) (oi := _) (v := ?_) rfl (by as_aux_lemma => kernel_rfl) (by as_aux_lemma => kernel_rfl) (by as_aux_lemma => kernel_rfl) (fun _ _ _ h => h) (Or.inl ⟨by rfl, ?_⟩) hHeld ?_
                          rotate_left
                          · intro w' hSw
                            have p0 := cell_bel hSw hpab p0
                            have q0 := cell_bel hSw hpbb q0
                            have r0 := cell_bel hSw hrb0 r0
                            obtain ⟨c0, c1, c2⟩ := (hVn.below hSw).at
                            obtain ⟨d0, d1, d2⟩ := (hVz.below hSw).at
                            have f1 := cell_bel hSw hnb f1
                            have f2 := cell_bel hSw hnb f2
                            have f3 := cell_bel hSw hnb f3
                            have f4 := cell_bel hSw hnb f4
                            have f5 := cell_bel hSw hnb f5
                            have f7 := cell_bel hSw hnb f7
                            have g0 := cell_bel hSw hzb g0
                            have g1 := cell_bel hSw hzb g1
                            have g2 := cell_bel hSw hzb g2
                            (go_simp <;> with_reducible rfl)
                          try simp only [Act.put, List.getElem_toArray, List.getElem_cons_succ, List.getElem_cons_zero, List.setIfInBounds_toArray, List.set_cons_zero, List.set_cons_succ]
                          refine wpAnyH_take (i := 44) (oi := _) (v := ?_) rfl (by as_aux_lemma => kernel_rfl) (by as_aux_lemma => kernel_rfl) (by as_aux_lemma => kernel_rfl) (fun _ _ _ h => h) (Or.inl ⟨by rfl, ?_⟩) hHeld ?_
                          rotate_left
                          · intro w' hSw
                            (go_simp <;> with_reducible rfl)
                          try simp only [Act.put, List.getElem_toArray, List.getElem_cons_succ, List.getElem_cons_zero, List.setIfInBounds_toArray, List.set_cons_zero, List.set_cons_succ]
                          refine wpAnyH_take (i := 45) (oi := _) (v := ?_) rfl (by as_aux_lemma => kernel_rfl) (by as_aux_lemma => kernel_rfl) (by as_aux_lemma => kernel_rfl) (fun _ _ _ h => h) (Or.inl ⟨by rfl, ?_⟩) hHeld ?_
                          rotate_left
                          · intro w' hSw
                            (go_simp <;> with_reducible rfl)
                          try simp only [Act.put, List.getElem_toArray, List.getElem_cons_succ, List.getElem_cons_zero, List.setIfInBounds_toArray, List.set_cons_zero, List.set_cons_succ]
                          refine wpAnyH_take (i := 46) (oi := _) (v := ?_) rfl (by as_aux_lemma => kernel_rfl) (by as_aux_lemma => kernel_rfl) (by as_aux_lemma => kernel_rfl) (fun _ _ _ h => h) (Or.inl ⟨by rfl, ?_⟩) hHeld ?_
                          rotate_left
                          · intro w' hSw
                            (go_simp <;> with_reducible rfl)
                          try simp only [Act.put, List.getElem_toArray, List.getElem_cons_succ, List.getElem_cons_zero, List.setIfInBounds_toArray, List.set_cons_zero, List.set_cons_succ]
                          refine wpAnyH_take (i := 47) (oi := _) (v := ?_) rfl (by as_aux_lemma => kernel_rfl) (by as_aux_lemma => kernel_rfl) (by as_aux_lemma => kernel_rfl) (fun _ _ _ h => h) (Or.inl ⟨by rfl, ?_⟩) hHeld ?_
                          rotate_left
                          · intro w' hSw
                            (go_simp <;> with_reducible rfl)
                          try simp only [Act.put, List.getElem_toArray, List.getElem_cons_succ, List.getElem_cons_zero, List.setIfInBounds_toArray, List.set_cons_zero, List.set_cons_succ]
                          refine wpAnyH_take (i := 48) (oi := _) (v := ?_) rfl (by as_aux_lemma => kernel_rfl) (by as_aux_lemma => kernel_rfl) (by as_aux_lemma => kernel_rfl) (fun _ _ _ h => h) (Or.inl ⟨by rfl, ?_⟩) hHeld ?_
                          rotate_left
                          · intro w' hSw
                            have p0 := cell_bel hSw hpab p0
                            have q0 := cell_bel hSw hpbb q0
                            have r0 := cell_bel hSw hrb0 r0
                            obtain ⟨c0, c1, c2⟩ := (hVn.below hSw).at
                            obtain ⟨d0, d1, d2⟩ := (hVz.below hSw).at
                            have f1 := cell_bel hSw hnb f1
                            have f2 := cell_bel hSw hnb f2
                            have f3 := cell_bel hSw hnb f3
                            have f4 := cell_bel hSw hnb f4
                            have f5 := cell_bel hSw hnb f5
                            have f7 := cell_bel hSw hnb f7
                            have g0 := cell_bel hSw hzb g0
                            have g1 := cell_bel hSw hzb g1
                            have g2 := cell_bel hSw hzb g2
                            (go_simp <;> with_reducible rfl)
                          try simp only [Act.put, List.getElem_toArray, List.getElem_cons_succ, List.getElem_cons_zero, List.setIfInBounds_toArray, List.set_cons_zero, List.set_cons_succ]
                          refine wpAnyH_take (i := 49) (oi := _) (v := ?_) rfl (by as_aux_lemma => kernel_rfl) (by as_aux_lemma => kernel_rfl) (by as_aux_lemma => kernel_rfl) (fun _ _ _ h => h) (Or.inl ⟨by rfl, ?_⟩) hHeld ?_
                          rotate_left
                          · intro w' hSw
                            (go_simp <;> with_reducible rfl)
                          try simp only [Act.put, List.getElem_toArray, List.getElem_cons_succ, List.getElem_cons_zero, List.setIfInBounds_toArray, List.set_cons_zero, List.set_cons_succ]
                          refine wpAnyH_take (i := 50) (oi := _) (v := ?_) rfl (by as_aux_lemma => kernel_rfl) (by as_aux_lemma => kernel_rfl) (by as_aux_lemma => kernel_rfl) (fun _ _ _ h => h) (Or.inl ⟨by rfl, ?_⟩) hHeld ?_
                          rotate_left
                          · intro w' hSw
                            (go_simp <;> with_reducible rfl)
                          try simp only [Act.put, List.getElem_toArray, List.getElem_cons_succ, List.getElem_cons_zero, List.setIfInBounds_toArray, List.set_cons_zero, List.set_cons_succ]
                          refine wpAnyH_take (i := 51) (oi := _) (v := ?_) rfl (by as_aux_lemma => kernel_rfl) (by as_aux_lemma => kernel_rfl) (by as_aux_lemma => kernel_rfl) (fun _ _ _ h => h) (Or.inl ⟨by rfl, ?_⟩) hHeld ?_
                          rotate_left
                          · intro w' hSw
                            have p0 := cell_bel hSw hpab p0
                            have q0 := cell_bel hSw hpbb q0
                            have r0 := cell_bel hSw hrb0 r0
                            obtain ⟨c0, c1, c2⟩ := (hVn.below hSw).at
                            obtain ⟨d0, d1, d2⟩ := (hVz.below hSw).at
                            have f1 := cell_bel hSw hnb f1
                            have f2 := cell_bel hSw hnb f2
                            have f3 := cell_bel hSw hnb f3
                            have f4 := cell_bel hSw hnb f4
                            have f5 := cell_bel hSw hnb f5
                            have f7 := cell_bel hSw hnb f7
                            have g0 := cell_bel hSw hzb g0
                            have g1 := cell_bel hSw hzb g1
                            have g2 := cell_bel hSw hzb g2
                            (go_simp <;> with_reducible rfl)
                          try simp only [Act.put, List.getElem_toArray, List.getElem_cons_succ, List.getElem_cons_zero, List.setIfInBounds_toArray, List.set_cons_zero, List.set_cons_succ]
                          refine wpAnyH_take (i := 52) (oi := _) (v := ?_) rfl (by as_aux_lemma => kernel_rfl) (by as_aux_lemma => kernel_rfl) (by as_aux_lemma => kernel_rfl) (fun _ _ _ h => h) (Or.inl ⟨by rfl, ?_⟩) hHeld ?_
                          rotate_left
                          · intro w' hSw
                            (go_simp <;> with_reducible rfl)
                          try simp only [Act.put, List.getElem_toArray, List.getElem_cons_succ, List.getElem_cons_zero, List.setIfInBounds_toArray, List.set_cons_zero, List.set_cons_succ]
                          refine wpAnyH_take (i := 53) (oi := _) (v := ?_) rfl (by as_aux_lemma => kernel_rfl) (by as_aux_lemma => kernel_rfl) (by as_aux_lemma => kernel_rfl) (fun _ _ _ h => h) (Or.inl ⟨by rfl, ?_⟩) hHeld ?_
                          rotate_left
                          · intro w' hSw
                            (go_simp <;> with_reducible rfl)
                          try simp only [Act.put, List.getElem_toArray, List.getElem_cons_succ, List.getElem_cons_zero, List.setIfInBounds_toArray, List.set_cons_zero, List.set_cons_succ]
                          refine wpAnyH_take (i := 54) (oi := _) (v := ?_) rfl (by as_aux_lemma => kernel_rfl) (by as_aux_lemma => kernel_rfl) (by as_aux_lemma => kernel_rfl) (fun _ _ _ h => h) (Or.inl ⟨by rfl, ?_⟩) hHeld ?_
                          rotate_left
                          · intro w' hSw
                            (go_simp <;> with_reducible rfl)
                          try simp only [Act.put, List.getElem_toArray, List.getElem_cons_succ, List.getElem_cons_zero, List.setIfInBounds_toArray, List.set_cons_zero, List.set_cons_succ]
                          refine wpAnyH_take (i := 55) (oi := _) (v := ?_) rfl (by as_aux_lemma => kernel_rfl) (by as_aux_lemma => kernel_rfl) (by as_aux_lemma => kernel_rfl) (fun _ _ _ h => h) (Or.inl ⟨by rfl, ?_⟩) hHeld ?_
                          rotate_left
                          · intro w' hSw
                            have p0 := cell_bel hSw hpab p0
                            have q0 := cell_bel hSw hpbb q0
                            have r0 := cell_bel hSw hrb0 r0
                            obtain ⟨c0, c1, c2⟩ := (hVn.below hSw).at
                            obtain ⟨d0, d1, d2⟩ := (hVz.below hSw).at
                            have f1 := cell_bel hSw hnb f1
                            have f2 := cell_bel hSw hnb f2
                            have f3 := cell_bel hSw hnb f3
                            have f4 := cell_bel hSw hnb f4
                            have f5 := cell_bel hSw hnb f5
                            have f7 := cell_bel hSw hnb f7
                            have g0 := cell_bel hSw hzb g0
                            have g1 := cell_bel hSw hzb g1
                            have g2 := cell_bel hSw hzb g2
                            (go_simp <;> with_reducible rfl)
                          try simp only [Act.put, List.getElem_toArray, List.getElem_cons_succ, List.getElem_cons_zero, List.setIfInBounds_toArray, List.set_cons_zero, List.set_cons_succ]
                          refine wpAnyH_take (i := 56) (oi := _) (v := ?_) rfl (by as_aux_lemma => kernel_rfl) (by as_aux_lemma => kernel_rfl) (by as_aux_lemma => kernel_rfl) (fun _ _ _ h => h) (Or.inl ⟨by rfl, ?_⟩) hHeld ?_
                          rotate_left
                          · intro w' hSw
                            (go_simp <;> with_reducible rfl)
                          try simp only [Act.put, List.getElem_toArray, List.getElem_cons_succ, List.getElem_cons_zero, List.setIfInBounds_toArray, List.set_cons_zero, List.set_cons_succ]
                          refine wpAnyH_take (i := 57) (oi := _) (v := ?_) rfl (by as_aux_lemma => kernel_rfl) (by as_aux_lemma => kernel_rfl) (by as_aux_lemma => kernel_rfl) (fun _ _ _ h => h) (Or.inl ⟨by rfl, ?_⟩) hHeld ?_
                          rotate_left
                          · intro w' hSw
                            (go_simp <;> with_reducible rfl)
                          try simp only [Act.put, List.getElem_toArray, List.getElem_cons_succ, List.getElem_cons_zero, List.setIfInBounds_toArray, List.set_cons_zero, List.set_cons_succ]
                          refine wpAnyH_take (i := 58) (oi := _) (v := ?_) rfl (by as_aux_lemma => kernel_rfl) (by as_aux_lemma => kernel_rfl) (by as_aux_lemma => kernel_rfl) (fun _ _ _ h => h) (Or.inl ⟨by rfl, ?_⟩) hHeld ?_
                          rotate_left
                          · intro w' hSw
                            (go_simp <;> with_reducible rfl)
                          try simp only [Act.put, List.getElem_toArray, List.getElem_cons_succ, List.getElem_cons_zero, List.setIfInBounds_toArray, List.set_cons_zero, List.set_cons_succ]
                          refine wpAnyH_take (i := 59) (oi := _) (v := ?_) rfl (by as_aux_lemma => kernel_rfl) (by as_aux_lemma => kernel_rfl) (by as_aux_lemma => kernel_rfl) (fun _ _ _ h => h) (Or.inl ⟨by rfl, ?_⟩) hHeld ?_
                          rotate_left
                          · intro w' hSw
                            (go_simp <;> with_reducible rfl)
                          try simp only [Act.put, List.getElem_toArray, List.getElem_cons_succ, List.getElem_cons_zero, List.setIfInBounds_toArray, List.set_cons_zero, List.set_cons_succ]
                          refine wpAnyH_take (i := 60) (oi := _) (v := ?_) rfl (by as_aux_lemma => kernel_rfl) (by as_aux_lemma => kernel_rfl) (by as_aux_lemma => kernel_rfl) (fun _ _ _ h => h) (Or.inl ⟨by rfl, ?_⟩) hHeld ?_
                          rotate_left
                          · intro w' hSw
                            (go_simp <;> with_reducible rfl)
                          try simp only [Act.put, List.getElem_toArray, List.getElem_cons_succ, List.getElem_cons_zero, List.setIfInBounds_toArray, List.set_cons_zero, List.set_cons_succ]
                          refine wpAnyH_take (i := 61) (oi := _) (v := ?_) rfl (by as_aux_lemma => kernel_rfl) (by as_aux_lemma => kernel_rfl) (by as_aux_lemma => kernel_rfl) (fun _ _ _ h => h) (Or.inl ⟨by rfl, ?_⟩) hHeld ?_
                          rotate_left
                          · intro w' hSw
                            have p0 := cell_bel hSw hpab p0
                            have q0 := cell_bel hSw hpbb q0
                            have r0 := cell_bel hSw hrb0 r0
                            obtain ⟨c0, c1, c2⟩ := (hVn.below hSw).at
                            obtain ⟨d0, d1, d2⟩ := (hVz.below hSw).at
                            have f1 := cell_bel hSw hnb f1
                            have f2 := cell_bel hSw hnb f2
                            have f3 := cell_bel hSw hnb f3
                            have f4 := cell_bel hSw hnb f4
                            have f5 := cell_bel hSw hnb f5
                            have f7 := cell_bel hSw hnb f7
                            have g0 := cell_bel hSw hzb g0
                            have g1 := cell_bel hSw hzb g1
                            have g2 := cell_bel hSw hzb g2
                            (go_simp <;> with_reducible rfl)
                          try simp only [Act.put, List.getElem_toArray, List.getElem_cons_succ, List.getElem_cons_zero, List.setIfInBounds_toArray, List.set_cons_zero, List.set_cons_succ]
                          refine wpAnyH_take (i := 62) (oi := _) (v := ?_) rfl (by as_aux_lemma => kernel_rfl) (by as_aux_lemma => kernel_rfl) (by as_aux_lemma => kernel_rfl) (fun _ _ _ h => h) (Or.inl ⟨by rfl, ?_⟩) hHeld ?_
                          rotate_left
                          · intro w' hSw
                            (go_simp <;> with_reducible rfl)
                          try simp only [Act.put, List.getElem_toArray, List.getElem_cons_succ, List.getElem_cons_zero, List.setIfInBounds_toArray, List.set_cons_zero, List.set_cons_succ]
                          refine wpAnyH_take (i := 63) (oi := _) (v := ?_) rfl (by as_aux_lemma => kernel_rfl) (by as_aux_lemma => kernel_rfl) (by as_aux_lemma => kernel_rfl) (fun _ _ _ h => h) (Or.inl ⟨by rfl, ?_⟩) hHeld ?_
                          rotate_left
                          · intro w' hSw
                            (go_simp <;> with_reducible rfl)
                          try simp only [Act.put, List.getElem_toArray, List.getElem_cons_succ, List.getElem_cons_zero, List.setIfInBounds_toArray, List.set_cons_zero, List.set_cons_succ]
                          refine wpAnyH_take (i := 64) (oi := _) (v := ?_) rfl (by as_aux_lemma => kernel_rfl) (by as_aux_lemma => kernel_rfl) (by as_aux_lemma => kernel_rfl) (fun _ _ _ h => h) (Or.inl ⟨by rfl, ?_⟩) hHeld ?_
                          rotate_left
                          · intro w' hSw
                            (go_simp <;> with_reducible rfl)
                          try simp only [Act.put, List.getElem_toArray, List.getElem_cons_succ, List.getElem_cons_zero, List.setIfInBounds_toArray, List.set_cons_zero, List.set_cons_succ]
                          refine wpAnyH_take (i := 65) (oi := _) (v := ?_) rfl (by as_aux_lemma => kernel_rfl) (by as_aux_lemma => kernel_rfl) (by as_aux_lemma => kernel_rfl) (fun _ _ _ h => h) (Or.inl ⟨by rfl, ?_⟩) hHeld ?_
                          rotate_left
                          · intro w' hSw
                            (go_simp <;> with_reducible rfl)
                          try simp only [Act.put, List.getElem_toArray, List.getElem_cons_succ, List.getElem_cons_zero, List.setIfInBounds_toArray, List.set_cons_zero, List.set_cons_succ]
                          refine wpAnyH_take (i := 66) (oi := _) (v := ?_) rfl (by as_aux_lemma => kernel_rfl) (by as_aux_lemma => kernel_rfl) (by as_aux_lemma => kernel_rfl) (fun _ _ _ h => h) (Or.inl ⟨by rfl, ?_⟩) hHeld ?_
                          rotate_left
                          · intro w' hSw
                            have p0 := cell_bel hSw hpab p0
                            have q0 := cell_bel hSw hpbb q0
                            have r0 := cell_bel hSw hrb0 r0
                            obtain ⟨c0, c1, c2⟩ := (hVn.below hSw).at
                            obtain ⟨d0, d1, d2⟩ := (hVz.below hSw).at
                            have f1 := cell_bel hSw hnb f1
                            have f2 := cell_bel hSw hnb f2
                            have f3 := cell_bel hSw hnb f3
                            have f4 := cell_bel hSw hnb f4
                            have f5 := cell_bel hSw hnb f5
                            have f7 := cell_bel hSw hnb f7
                            have g0 := cell_bel hSw hzb g0
                            have g1 := cell_bel hSw hzb g1
                            have g2 := cell_bel hSw hzb g2
                            (go_simp <;> with_reducible rfl)
                          try simp only [Act.put, List.getElem_toArray, List.getElem_cons_succ, List.getElem_cons_zero, List.setIfInBounds_toArray, List.set_cons_zero, List.set_cons_succ]
                          refine wpAnyH_take (i := 67) (oi := _) (v := ?_) rfl (by as_aux_lemma => kernel_rfl) (by as_aux_lemma => kernel_rfl) (by as_aux_lemma => kernel_rfl) (fun _ _ _ h => h) (Or.inl ⟨by rfl, ?_⟩) hHeld ?_
                          rotate_left
                          · intro w' hSw
                            (go_simp <;> with_reducible rfl)
                          try simp only [Act.put, List.getElem_toArray, List.getElem_cons_succ, List.getElem_cons_zero, List.setIfInBounds_toArray, List.set_cons_zero, List.set_cons_succ]
                          refine wpAnyH_take (i := 68) (oi := _) (v := ?_) rfl (by as_aux_lemma => kernel_rfl) (by as_aux_lemma => kernel_rfl) (by as_aux_lemma => kernel_rfl) (fun _ _ _ h => h) (Or.inl ⟨by rfl, ?_⟩) hHeld ?_
                          rotate_left
                          · intro w' hSw
                            (go_simp <;> with_reducible rfl)
                          try simp only [Act.put, List.getElem_toArray, List.getElem_cons_succ, List.getElem_cons_zero, List.setIfInBounds_toArray, List.set_cons_zero, List.set_cons_succ]
                          refine wpAnyH_take (i := 69) (oi := _) (v := ?_) rfl (by as_aux_lemma => kernel_rfl) (by as_aux_lemma => kernel_rfl) (by as_aux_lemma => kernel_rfl) (fun _ _ _ h => h) (Or.inl ⟨by rfl, ?_⟩) hHeld ?_
                          rotate_left
                          · intro w' hSw
                            (go_simp <;> with_reducible rfl)
                          try simp only [Act.put, List.getElem_toArray, List.getElem_cons_succ, List.getElem_cons_zero, List.setIfInBounds_toArray, List.set_cons_zero, List.set_cons_succ]
                          refine wpAnyH_take (i := 70) (oi := _) (v := ?_) rfl (by as_aux_lemma => kernel_rfl) (by as_aux_lemma => kernel_rfl) (by as_aux_lemma => kernel_rfl) (fun _ _ _ h => h) (Or.inl ⟨by rfl, ?_⟩) hHeld ?_
                          rotate_left
                          · intro w' hSw
                            (go_simp <;> with_reducible rfl)
                          try simp only [Act.put, List.getElem_toArray, List.getElem_cons_succ, List.getElem_cons_zero, List.setIfInBounds_toArray, List.set_cons_zero, List.set_cons_succ]
                          refine wpAnyH_take (i := 71) (oi := _) (v := ?_) rfl (by as_aux_lemma => kernel_rfl) (by as_aux_lemma => kernel_rfl) (by as_aux_lemma => kernel_rfl) (fun _ _ _ h => h) (Or.inl ⟨by rfl, ?_⟩) hHeld ?_
                          rotate_left
                          · intro w' hSw
                            have p0 := cell_bel hSw hpab p0
                            have q0 := cell_bel hSw hpbb q0
                            have r0 := cell_bel hSw hrb0 r0
                            obtain ⟨c0, c1, c2⟩ := (hVn.below hSw).at
                            obtain ⟨d0, d1, d2⟩ := (hVz.below hSw).at
                            have f1 := cell_bel hSw hnb f1
                            have f2 := cell_bel hSw hnb f2
                            have f3 := cell_bel hSw hnb f3
                            have f4 := cell_bel hSw hnb f4
                            have f5 := cell_bel hSw hnb f5
                            have f7 := cell_bel hSw hnb f7
                            have g0 := cell_bel hSw hzb g0
                            have g1 := cell_bel hSw hzb g1
                            have g2 := cell_bel hSw hzb g2
                            (go_simp <;> with_reducible rfl)
                          try simp only [Act.put, List.getElem_toArray, List.getElem_cons_succ, List.getElem_cons_zero, List.setIfInBounds_toArray, List.set_cons_zero, List.set_cons_succ]
                          refine wpAnyH_take (i := 72) (oi := _) (v := ?_) rfl (by as_aux_lemma => kernel_rfl) (by as_aux_lemma => kernel_rfl) (by as_aux_lemma => kernel_rfl) (fun _ _ _ h => h) (Or.inl ⟨by rfl, ?_⟩) hHeld ?_
                          rotate_left
                          · intro w' hSw
                            (go_simp <;> with_reducible rfl)
                          try simp only [Act.put, List.getElem_toArray, List.getElem_cons_succ, List.getElem_cons_zero, List.setIfInBounds_toArray, List.set_cons_zero, List.set_cons_succ]
                          refine wpAnyH_take (i := 73) (oi := _) (v := ?_) rfl (by as_aux_lemma => kernel_rfl) (by as_aux_lemma => kernel_rfl) (by as_aux_lemma => kernel_rfl) (fun _ _ _ h => h) (Or.inl ⟨by rfl, ?_⟩) hHeld ?_
                          rotate_left
                          · intro w' hSw
                            (go_simp <;> with_reducible rfl)
                          try simp only [Act.put, List.getElem_toArray, List.getElem_cons_succ, List.getElem_cons_zero, List.setIfInBounds_toArray, List.set_cons_zero, List.set_cons_succ]
                          refine wpAnyH_take (i := 74) (oi := _) (v := ?_) rfl (by as_aux_lemma => kernel_rfl) (by as_aux_lemma => kernel_rfl) (by as_aux_lemma => kernel_rfl) (fun _ _ _ h => h) (Or.inl ⟨by rfl, ?_⟩) hHeld ?_
                          rotate_left
                          · intro w' hSw
                            (go_simp <;> with_reducible rfl)
                          try simp only [Act.put, List.getElem_toArray, List.getElem_cons_succ, List.getElem_cons_zero, List.setIfInBounds_toArray, List.set_cons_zero, List.set_cons_succ]
                          refine wpAnyH_take (i := 75) (oi := _) (v := ?_) rfl (by as_aux_lemma => kernel_rfl) (by as_aux_lemma => kernel_rfl) (by as_aux_lemma => kernel_rfl) (fun _ _ _ h => h) (Or.inl ⟨by rfl, ?_⟩) hHeld ?_
                          rotate_left
                          · intro w' hSw
                            (go_simp <;> with_reducible rfl)
                          try simp only [Act.put, List.getElem_toArray, List.getElem_cons_succ, List.getElem_cons_zero, List.setIfInBounds_toArray, List.set_cons_zero, List.set_cons_succ]
                          refine wpAnyH_take (i := 76) (oi := _) (v := ?_) rfl (by as_aux_lemma => kernel_rfl) (by as_aux_lemma => kernel_rfl) (by as_aux_lemma => kernel_rfl) (fun _ _ _ h => h) (Or.inl ⟨by rfl, ?_⟩) hHeld ?_
                          rotate_left
                          · intro w' hSw
                            have p0 := cell_bel hSw hpab p0
                            have q0 := cell_bel hSw hpbb q0
                            have r0 := cell_bel hSw hrb0 r0
                            obtain ⟨c0, c1, c2⟩ := (hVn.below hSw).at
                            obtain ⟨d0, d1, d2⟩ := (hVz.below hSw).at
                            have f1 := cell_bel hSw hnb f1
                            have f2 := cell_bel hSw hnb f2
                            have f3 := cell_bel hSw hnb f3
                            have f4 := cell_bel hSw hnb f4
                            have f5 := cell_bel hSw hnb f5
                            have f7 := cell_bel hSw hnb f7
                            have g0 := cell_bel hSw hzb g0
                            have g1 := cell_bel hSw hzb g1
                            have g2 := cell_bel hSw hzb g2
                            (go_simp <;> with_reducible rfl)
                          try simp only [Act.put, List.getElem_toArray, List.getElem_cons_succ, List.getElem_cons_zero, List.setIfInBounds_toArray, List.set_cons_zero, List.set_cons_succ]
                          refine wpAnyH_take (i := 77) (oi := _) (v := ?_) rfl (by as_aux_lemma => kernel_rfl) (by as_aux_lemma => kernel_rfl) (by as_aux_lemma => kernel_rfl) (fun _ _ _ h => h) (Or.inl ⟨by rfl, ?_⟩) hHeld ?_
                          rotate_left
                          · intro w' hSw
                            (go_simp <;> with_reducible rfl)
                          try simp only [Act.put, List.getElem_toArray, List.getElem_cons_succ, List.getElem_cons_zero, List.setIfInBounds_toArray, List.set_cons_zero, List.set_cons_succ]
                          refine wpAnyH_take (i := 78) (oi := _) (v := ?_) rfl (by as_aux_lemma => kernel_rfl) (by as_aux_lemma => kernel_rfl) (by as_aux_lemma => kernel_rfl) (fun _ _ _ h => h) (Or.inl ⟨by rfl, ?_⟩) hHeld ?_
                          rotate_left
                          · intro w' hSw
                            (go_simp <;> with_reducible rfl)
                          try simp only [Act.put, List.getElem_toArray, List.getElem_cons_succ, List.getElem_cons_zero, List.setIfInBounds_toArray, List.set_cons_zero, List.set_cons_succ]
                          refine wpAnyH_take (i := 79) (oi := _) (v := ?_) rfl (by as_aux_lemma => kernel_rfl) (by as_aux_lemma => kernel_rfl) (by as_aux_lemma => kernel_rfl) (fun _ _ _ h => h) (Or.inl ⟨by rfl, ?_⟩) hHeld ?_
                          rotate_left
                          · intro w' hSw
                            (go_simp <;> with_reducible rfl)
                          try simp only [Act.put, List.getElem_toArray, List.getElem_cons_succ, List.getElem_cons_zero, List.setIfInBounds_toArray, List.set_cons_zero, List.set_cons_succ]
                          refine wpAnyH_take (i := 80) (oi := _) (v := ?_) rfl (by as_aux_lemma => kernel_rfl) (by as_aux_lemma => kernel_rfl) (by as_aux_lemma => kernel_rfl) (fun _ _ _ h => h) (Or.inl ⟨by rfl, ?_⟩) hHeld ?_
                          rotate_left
                          · intro w' hSw
                            (go_simp <;> with_reducible rfl)
                          try simp only [Act.put, List.getElem_toArray, List.getElem_cons_succ, List.getElem_cons_zero, List.setIfInBounds_toArray, List.set_cons_zero, List.set_cons_succ]
                          refine wpAnyH_take (i := 81) (oi := _) (v := ?_) rfl (by as_aux_lemma => kernel_rfl) (by as_aux_lemma => kernel_rfl) (by as_aux_lemma => kernel_rfl) (fun _ _ _ h => h) (Or.inl ⟨by rfl, ?_⟩) hHeld ?_
                          rotate_left
                          · intro w' hSw
                            (go_simp <;> with_reducible rfl)
                          try simp only [Act.put, List.getElem_toArray, List.getElem_cons_succ, List.getElem_cons_zero, List.setIfInBounds_toArray, List.set_cons_zero, List.set_cons_succ]
                          refine wpAnyH_take (i := 82) (oi := _) (v := ?_) rfl (by as_aux_lemma => kernel_rfl) (by as_aux_lemma => kernel_rfl) (by as_aux_lemma => kernel_rfl) (fun _ _ _ h => h) (Or.inl ⟨by rfl, ?_⟩) hHeld ?_
                          rotate_left
                          · intro w' hSw
                            have p0 := cell_bel hSw hpab p0
                            have q0 := cell_bel hSw hpbb q0
                            have r0 := cell_bel hSw hrb0 r0
                            obtain ⟨c0, c1, c2⟩ := (hVn.below hSw).at
                            obtain ⟨d0, d1, d2⟩ := (hVz.below hSw).at
                            have f1 := cell_bel hSw hnb f1
                            have f2 := cell_bel hSw hnb f2
                            have f3 := cell_bel hSw hnb f3
                            have f4 := cell_bel hSw hnb f4
                            have f5 := cell_bel hSw hnb f5
                            have f7 := cell_bel hSw hnb f7
                            have g0 := cell_bel hSw hzb g0
                            have g1 := cell_bel hSw hzb g1
                            have g2 := cell_bel hSw hzb g2
                            (go_simp <;> with_reducible rfl)
                          try simp only [Act.put, List.getElem_toArray, List.getElem_cons_succ, List.getElem_cons_zero, List.setIfInBounds_toArray, List.set_cons_zero, List.set_cons_succ]
                          refine wpAnyH_take (i := 83) (oi := _) (v := ?_) rfl (by as_aux_lemma => kernel_rfl) (by as_aux_lemma => kernel_rfl) (by as_aux_lemma => kernel_rfl) (fun _ _ _ h => h) (Or.inl ⟨by rfl, ?_⟩) hHeld ?_
                          rotate_left
                          · intro w' hSw
                            (go_simp <;> with_reducible rfl)
                          try simp only [Act.put, List.getElem_toArray, List.getElem_cons_succ, List.getElem_cons_zero, List.setIfInBounds_toArray, List.set_cons_zero, List.set_cons_succ]
                          refine wpAnyH_take (i := 84) (oi := _) (v := ?_) rfl (by as_aux_lemma => kernel_rfl) (by as_aux_lemma => kernel_rfl) (by as_aux_lemma => kernel_rfl) (fun _ _ _ h => h) (Or.inl ⟨by rfl, ?_⟩) hHeld ?_
                          rotate_left
                          · intro w' hSw
                            (go_simp <;> with_reducible rfl)
                          try simp only [Act.put, List.getElem_toArray, List.getElem_cons_succ, List.getElem_cons_zero, List.setIfInBounds_toArray, List.set_cons_zero, List.set_cons_succ]
                          refine wpAnyH_take (i := 85) (oi := _) (v := ?_) rfl (by as_aux_lemma => kernel_rfl) (by as_aux_lemma => kernel_rfl) (by as_aux_lemma => kernel_rfl) (fun _ _ _ h => h) (Or.inl ⟨by rfl, ?_⟩) hHeld ?_
                          rotate_left
                          · intro w' hSw
                            (go_simp <;> with_reducible rfl)
                          try simp only [Act.put, List.getElem_toArray, List.getElem_cons_succ, List.getElem_cons_zero, List.setIfInBounds_toArray, List.set_cons_zero, List.set_cons_succ]
                          refine wpAnyH_take (i := 86) (oi := _) (v := ?_) rfl (by as_aux_lemma => kernel_rfl) (by as_aux_lemma => kernel_rfl) (by as_aux_lemma => kernel_rfl) (fun _ _ _ h => h) (Or.inl ⟨by rfl, ?_⟩) hHeld ?_
                          rotate_left
                          · intro w' hSw
                            have p0 := cell_bel hSw hpab p0
                            have q0 := cell_bel hSw hpbb q0
                            have r0 := cell_bel hSw hrb0 r0
                            obtain ⟨c0, c1, c2⟩ := (hVn.below hSw).at
                            obtain ⟨d0, d1, d2⟩ := (hVz.below hSw).at
                            have f1 := cell_bel hSw hnb f1
                            have f2 := cell_bel hSw hnb f2
                            have f3 := cell_bel hSw hnb f3
                            have f4 := cell_bel hSw hnb f4
                            have f5 := cell_bel hSw hnb f5
                            have f7 := cell_bel hSw hnb f7
                            have g0 := cell_bel hSw hzb g0
                            have g1 := cell_bel hSw hzb g1
                            have g2 := cell_bel hSw hzb g2
                            (go_simp <;> with_reducible rfl)
                          try simp only [Act.put, List.getElem_toArray, List.getElem_cons_succ, List.getElem_cons_zero, List.setIfInBounds_toArray, List.set_cons_zero, List.set_cons_succ]
                          refine wpAnyH_take (i := 87) (oi := _) (v := ?_) rfl (by as_aux_lemma => kernel_rfl) (by as_aux_lemma => kernel_rfl) (by as_aux_lemma => kernel_rfl) (fun _ _ _ h => h) (Or.inl ⟨by rfl, ?_⟩) hHeld ?_
                          rotate_left
                          · intro w' hSw
                            (go_simp <;> with_reducible rfl)
                          try simp only [Act.put, List.getElem_toArray, List.getElem_cons_succ, List.getElem_cons_zero, List.setIfInBounds_toArray, List.set_cons_zero, List.set_cons_succ]
                          refine wpAnyH_take (i := 88) (oi := _) (v := ?_) rfl (by as_aux_lemma => kernel_rfl) (by as_aux_lemma => kernel_rfl) (by as_aux_lemma => kernel_rfl) (fun _ _ _ h => h) (Or.inl ⟨by rfl, ?_⟩) hHeld ?_
                          rotate_left
                          · intro w' hSw
                            have p0 := cell_bel hSw hpab p0
                            have q0 := cell_bel hSw hpbb q0
                            have r0 := cell_bel hSw hrb0 r0
                            obtain ⟨c0, c1, c2⟩ := (hVn.below hSw).at
                            obtain ⟨d0, d1, d2⟩ := (hVz.below hSw).at
                            have f1 := cell_bel hSw hnb f1
                            have f2 := cell_bel hSw hnb f2
                            have f3 := cell_bel hSw hnb f3
                            have f4 := cell_bel hSw hnb f4
                            have f5 := cell_bel hSw hnb f5
                            have f7 := cell_bel hSw hnb f7
                            have g0 := cell_bel hSw hzb g0
                            have g1 := cell_bel hSw hzb g1
                            have g2 := cell_bel hSw hzb g2
                            (go_simp <;> with_reducible rfl)
                          try simp only [Act.put, List.getElem_toArray, List.getElem_cons_succ, List.getElem_cons_zero, List.setIfInBounds_toArray, List.set_cons_zero, List.set_cons_succ]
                          refine wpAnyH_take (i := 89) (oi := _) (v := ?_) rfl (by as_aux_lemma => kernel_rfl) (by as_aux_lemma => kernel_rfl) (by as_aux_lemma => kernel_rfl) (fun _ _ _ h => h) (Or.inl ⟨by rfl, ?_⟩) hHeld ?_
                          rotate_left
                          · intro w' hSw
                            (go_simp <;> with_reducible rfl)
                          try simp only [Act.put, List.getElem_toArray, List.getElem_cons_succ, List.getElem_cons_zero, List.setIfInBounds_toArray, List.set_cons_zero, List.set_cons_succ]
                          refine wpAnyH_take (i := 90) (oi := _) (v := ?_) rfl (by as_aux_lemma => kernel_rfl) (by as_aux_lemma => kernel_rfl) (by as_aux_lemma => kernel_rfl) (fun _ _ _ h => h) (Or.inl ⟨by rfl, ?_⟩) hHeld ?_
                          rotate_left
                          · intro w' hSw
                            (go_simp <;> with_reducible rfl)
                          try simp only [Act.put, List.getElem_toArray, List.getElem_cons_succ, List.getElem_cons_zero, List.setIfInBounds_toArray, List.set_cons_zero, List.set_cons_succ]
                          refine wpAnyH_take (i := 91) (oi := _) (v := ?_) rfl (by as_aux_lemma => kernel_rfl) (by as_aux_lemma => kernel_rfl) (by as_aux_lemma => kernel_rfl) (fun _ _ _ h => h) (Or.inl ⟨by rfl, ?_⟩) hHeld ?_
                          rotate_left
                          · intro w' hSw
                            (go_simp <;> with_reducible rfl)
                          try simp only [Act.put, List.getElem_toArray, List.getElem_cons_succ, List.getElem_cons_zero, List.setIfInBounds_toArray, List.set_cons_zero, List.set_cons_succ]
                          refine wpAnyH_take (i := 92) (oi := _) (v := ?_) rfl (by as_aux_lemma => kernel_rfl) (by as_aux_lemma => kernel_rfl) (by as_aux_lemma => kernel_rfl) (fun _ _ _ h => h) (Or.inl ⟨by rfl, ?_⟩) hHeld ?_
                          rotate_left
                          · intro w' hSw
                            have p0 := cell_bel hSw hpab p0
                            have q0 := cell_bel hSw hpbb q0
                            have r0 := cell_bel hSw hrb0 r0
                            obtain ⟨c0, c1, c2⟩ := (hVn.below hSw).at
                            obtain ⟨d0, d1, d2⟩ := (hVz.below hSw).at
                            have f1 := cell_bel hSw hnb f1
                            have f2 := cell_bel hSw hnb f2
                            have f3 := cell_bel hSw hnb f3
                            have f4 := cell_bel hSw hnb f4
                            have f5 := cell_bel hSw hnb f5
                            have f7 := cell_bel hSw hnb f7
                            have g0 := cell_bel hSw hzb g0
                            have g1 := cell_bel hSw hzb g1
                            have g2 := cell_bel hSw hzb g2
                            (go_simp <;> with_reducible rfl)
                          try simp only [Act.put, List.getElem_toArray, List.getElem_cons_succ, List.getElem_cons_zero, List.setIfInBounds_toArray, List.set_cons_zero, List.set_cons_succ]
                          refine wpAnyH_take (i := 93) (oi := _) (v := ?_) rfl (by as_aux_lemma => kernel_rfl) (by as_aux_lemma => kernel_rfl) (by as_aux_lemma => kernel_rfl) (fun _ _ _ h => h) (Or.inl ⟨by rfl, ?_⟩) hHeld ?_
                          rotate_left
                          · intro w' hSw
                            (go_simp <;> with_reducible rfl)
                          try simp only [Act.put, List.getElem_toArray, List.getElem_cons_succ, List.getElem_cons_zero, List.setIfInBounds_toArray, List.set_cons_zero, List.set_cons_succ]
                          refine wpAnyH_take (i := 94) (oi := _) (v := ?_) rfl (by as_aux_lemma => kernel_rfl) (by as_aux_lemma => kernel_rfl) (by as_aux_lemma => kernel_rfl) (fun _ _ _ h => h) (Or.inl ⟨by rfl, ?_⟩) hHeld ?_
                          rotate_left
                          · intro w' hSw
                            (go_simp <;> with_reducible rfl)
                          try simp only [Act.put, List.getElem_toArray, List.getElem_cons_succ, List.getElem_cons_zero, List.setIfInBounds_toArray, List.set_cons_zero, List.set_cons_succ]
                          refine wpAnyH_done (by as_aux_lemma => kernel_rfl) ?_ _
                          have bd := bel_call hbx (Nat.le_refl _) (Below.refl _ W1).drew
                          go_wp2
                          go_roundw
                          case rel => exact ⟨j + 1, cn + 1, by omega, by go_num, by go_num, HC2.out, bd⟩
                          case measure => simp [intOf]; omega
                    · obtain ⟨ha, hsm⟩ := hM.not hPP hjl his
                      rw [hsm] at hOn
                      have HC2 : Hid ((audP T.T (j + 1)).length = cn) := by show _ = _; rw [audP_step, HC.out, ha]; rfl
                      have hXz0 := hXz
                      obtain ⟨g0, g1, g2, g3, g4, g5, g6, g7, g8, g9⟩ := hXz0
                      clear g1 g2 g3 g4 g5 g6 g7 g8 g9 ha hsm
                      cases hbt : tn.testBit j with
                      | true =>
                        have hk0 : (P.T.getD j th0).k = 0 := by
                          by_cases h : (P.T.getD j th0).k = 0
                          · exact h
                          · exact absurd ⟨hbt, h⟩ his
                        have xk : (Xz.k == 0) = true := by rw [hOk, hk0]; rfl
                        have xk2 : decide (Xz.k = 0) = true := by rw [hOk, hk0]; rfl
                        have xn : (Xz.k != 0) = false := by rw [bne, xk]; rfl
                        clear hk0
                        rw [hbt] at xt
                        clear hbt his hOk
                        as_aux_lemma =>
                          go_upto_region 33 with fail
                          obtain ⟨W1, hW1⟩ : ∃ W1, W1 = wr := ⟨_, rfl⟩
                          subst hW1
                          refine wp_region_held_drew (S := fun w' => Below W1.heap.size W1 w') (by kernel_rfl) (Below.refl _ _).drew (fun hHeld => ?_)
                          refine wpAnyH_take (i := 0) (oi := _) (v := ?_) rfl (by kernel_rfl) (by kernel_rfl) (by kernel_rfl) (fun _ _ _ h => h) (Or.inl ⟨by rfl, ?_⟩) hHeld ?_
                          rotate_left
                          · intro w' hSw
                            (go_simp <;> with_reducible rfl)
                          try simp only [Act.put, List.getElem_toArray, List.getElem_cons_zero, List.setIfInBounds_toArray, List.set_cons_zero, List.set_cons_succ]
                          refine wpAnyH_take (i := 1) (oi := _) (v := ?_) rfl (by kernel_rfl) (by kernel_rfl) (by kernel_rfl) (fun _ _ _ h => h) (Or.inl ⟨by rfl, ?_⟩) hHeld ?_
                          rotate_left
                          · intro w' hSw
                            obtain ⟨e0, e1, e2⟩ := (hVn.below hSw).at
                            (go_simp <;> with_reducible rfl)
                          try simp only [Act.put, List.getElem_toArray, List.getElem_cons_succ, List.getElem_cons_zero, List.setIfInBounds_toArray, List.set_cons_zero, List.set_cons_succ]
                          refine wpAnyH_take (i := 2) (oi := _) (v := ?_) rfl (by kernel_rfl) (by kernel_rfl) (by kernel_rfl) (fun _ _ _ h => h) (Or.inl ⟨by rfl, ?_⟩) hHeld ?_
                          rotate_left
                          · intro w' hSw
                            (go_simp <;> with_reducible rfl)
                          try simp only [Act.put, List.getElem_toArray, List.getElem_cons_succ, List.getElem_cons_zero, List.setIfInBounds_toArray, List.set_cons_zero, List.set_cons_succ]
                          refine wpAnyH_take (i := 3) (oi := _) (v := ?_) rfl (by kernel_rfl) (by kernel_rfl) (by kernel_rfl) (fun _ _ _ h => h) (Or.inl ⟨by rfl, ?_⟩) hHeld ?_
                          rotate_left
                          · intro w' hSw
                            (go_simp <;> with_reducible rfl)
                          try simp only [Act.put, List.getElem_toArray, List.getElem_cons_succ, List.getElem_cons_zero, List.setIfInBounds_toArray, List.set_cons_zero, List.set_cons_succ]
                          refine wpAnyH_take (i := 4) (oi := _) (v := ?_) rfl (by kernel_rfl) (by kernel_rfl) (by kernel_rfl) (fun _ _ _ h => h) (Or.inl ⟨by rfl, ?_⟩) hHeld ?_
                          rotate_left
                          · intro w' hSw
                            obtain ⟨f0, f1, f2, f3, f4, f5, f6, f7, f8, f9⟩ := hXn.below hSw hnb
                            (go_simp <;> with_reducible rfl)
                          try simp only [Act.put, List.getElem_toArray, List.getElem_cons_succ, List.getElem_cons_zero, List.setIfInBounds_toArray, List.set_cons_zero, List.set_cons_succ]
                          refine wpAnyH_take (i := 5) (oi := _) (v := ?_) rfl (by kernel_rfl) (by kernel_rfl) (by kernel_rfl) (fun _ _ _ h => h) (Or.inl ⟨by rfl, ?_⟩) hHeld ?_
                          rotate_left
                          · intro w' hSw
                            (go_simp <;> with_reducible rfl)
                          try simp only [Act.put, List.getElem_toArray, List.getElem_cons_succ, List.getElem_cons_zero, List.setIfInBounds_toArray, List.set_cons_zero, List.set_cons_succ]
                          refine wpAnyH_take (i := 6) (oi := _) (v := ?_) rfl (by kernel_rfl) (by kernel_rfl) (by kernel_rfl) (fun _ _ _ h => h) (Or.inl ⟨by rfl, ?_⟩) hHeld ?_
                          rotate_left
                          · intro w' hSw
                            obtain ⟨e0, e1, e2⟩ := (hVz.below hSw).at
                            (go_simp <;> with_reducible rfl)
                          try simp only [Act.put, List.getElem_toArray, List.getElem_cons_succ, List.getElem_cons_zero, List.setIfInBounds_toArray, List.set_cons_zero, List.set_cons_succ]
                          refine wpAnyH_take (i := 7) (oi := _) (v := ?_) rfl (by kernel_rfl) (by kernel_rfl) (by kernel_rfl) (fun _ _ _ h => h) (Or.inl ⟨by rfl, ?_⟩) hHeld ?_
                          rotate_left
                          · intro w' hSw
                            (go_simp <;> with_reducible rfl)
                          try simp only [Act.put, List.getElem_toArray, List.getElem_cons_succ, List.getElem_cons_zero, List.setIfInBounds_toArray, List.set_cons_zero, List.set_cons_succ]
                          refine wpAnyH_take (i := 8) (oi := _) (v := ?_) rfl (by kernel_rfl) (by kernel_rfl) (by kernel_rfl) (fun _ _ _ h => h) (Or.inl ⟨by rfl, ?_⟩) hHeld ?_
                          rotate_left
                          · intro w' hSw
                            (go_simp <;> with_reducible rfl)
                          try simp only [Act.put, List.getElem_toArray, List.getElem_cons_succ, List.getElem_cons_zero, List.setIfInBounds_toArray, List.set_cons_zero, List.set_cons_succ]
                          refine wpAnyH_take (i := 9) (oi := _) (v := ?_) rfl (by kernel_rfl) (by kernel_rfl) (by kernel_rfl) (fun _ _ _ h => h) (Or.inl ⟨by rfl, ?_⟩) hHeld ?_
                          rotate_left
                          · intro w' hSw
                            obtain ⟨f0, f1, f2, f3, f4, f5, f6, f7, f8, f9⟩ := hXz.below hSw hzb
                            (go_simp <;> with_reducible rfl)
                          try simp only [Act.put, List.getElem_toArray, List.getElem_cons_succ, List.getElem_cons_zero, List.setIfInBounds_toArray, List.set_cons_zero, List.set_cons_succ]
                          refine wpAnyH_ready (rs := [10]) (by kernel_rfl) (by simp) ?_
                          refine AllReadyH.cons (o := _) rfl (fun K hK => ?_) AllReadyH.nil
                          go_simp
                          go_at_call 30; refine (samething_yes Xn Xz (P.T.getD j th0) _ (hOn.below hHeld) (hOz.below hHeld)).mono ?_
                          rintro e w9 ⟨rfl, b9⟩
                          have b9 := bel_call hHeld (Nat.le_refl _) b9
                          refine hK.out _ _ b9 (fun _ => ?_)
                          refine wpAnyH_weaken (S' := fun w' => Below w9.heap.size w9 w') (fun w' h => bel_call b9 (Nat.le_refl _) h) _ _ _ _ ?_
                          clear hHeld hK K
                          have hHeld : Below w9.heap.size w9 w9 := Below.refl _ _
                          try simp only [Act.put, List.getElem_toArray, List.getElem_cons_succ, List.getElem_cons_zero, List.setIfInBounds_toArray, List.set_cons_zero, List.set_cons_succ]
                          refine wpAnyH_take (i := 11) (oi := _) (v := ?_) rfl (by kernel_rfl) (by kernel_rfl) (by kernel_rfl) (fun _ _ _ h => h) (Or.inl ⟨by rfl, ?_⟩) hHeld ?_
                          rotate_left
                          · intro w' hSw
                            (go_simp <;> with_reducible rfl)
                          try simp only [Act.put, List.getElem_toArray, List.getElem_cons_succ, List.getElem_cons_zero, List.setIfInBounds_toArray, List.set_cons_zero, List.set_cons_succ]
                          refine wpAnyH_done (by kernel_rfl) ?_ _
                          go_wp2
                          have bd := bel_call hbx (Nat.le_refl _) b9
                          go_roundw
                          case rel => exact ⟨j + 1, cn, by omega, by go_num, rfl, HC2.out, bd⟩
                          case measure => simp [intOf]; omega
                      | false =>
                        rw [hbt] at xt
                        clear hbt his hOk
                        as_aux_lemma =>
                          go_upto_region 33 with fail
                          obtain ⟨W1, hW1⟩ : ∃ W1, W1 = wr := ⟨_, rfl⟩
                          subst hW1
                          refine wp_region_held_drew (S := fun w' => Below W1.heap.size W1 w') (by kernel_rfl) (Below.refl _ _).drew (fun hHeld => ?_)
                          refine wpAnyH_take (i := 0) (oi := _) (v := ?_) rfl (by kernel_rfl) (by kernel_rfl) (by kernel_rfl) (fun _ _ _ h => h) (Or.inl ⟨by rfl, ?_⟩) hHeld ?_
                          rotate_left
                          · intro w' hSw
                            (go_simp <;> with_reducible rfl)
                          try simp only [Act.put, List.getElem_toArray, List.getElem_cons_zero, List.setIfInBounds_toArray, List.set_cons_zero, List.set_cons_succ]
                          refine wpAnyH_take (i := 1) (oi := _) (v := ?_) rfl (by kernel_rfl) (by kernel_rfl) (by kernel_rfl) (fun _ _ _ h => h) (Or.inl ⟨by rfl, ?_⟩) hHeld ?_
                          rotate_left
                          · intro w' hSw
                            obtain ⟨e0, e1, e2⟩ := (hVn.below hSw).at
                            (go_simp <;> with_reducible rfl)
                          try simp only [Act.put, List.getElem_toArray, List.getElem_cons_succ, List.getElem_cons_zero, List.setIfInBounds_toArray, List.set_cons_zero, List.set_cons_succ]
                          refine wpAnyH_take (i := 2) (oi := _) (v := ?_) rfl (by kernel_rfl) (by kernel_rfl) (by kernel_rfl) (fun _ _ _ h => h) (Or.inl ⟨by rfl, ?_⟩) hHeld ?_
                          rotate_left
                          · intro w' hSw
                            (go_simp <;> with_reducible rfl)
                          try simp only [Act.put, List.getElem_toArray, List.getElem_cons_succ, List.getElem_cons_zero, List.setIfInBounds_toArray, List.set_cons_zero, List.set_cons_succ]
                          refine wpAnyH_take (i := 3) (oi := _) (v := ?_) rfl (by kernel_rfl) (by kernel_rfl) (by kernel_rfl) (fun _ _ _ h => h) (Or.inl ⟨by rfl, ?_⟩) hHeld ?_
                          rotate_left
                          · intro w' hSw
                            (go_simp <;> with_reducible rfl)
                          try simp only [Act.put, List.getElem_toArray, List.getElem_cons_succ, List.getElem_cons_zero, List.setIfInBounds_toArray, List.set_cons_zero, List.set_cons_succ]
                          refine wpAnyH_take (i := 4) (oi := _) (v := ?_) rfl (by kernel_rfl) (by kernel_rfl) (by kernel_rfl) (fun _ _ _ h => h) (Or.inl ⟨by rfl, ?_⟩) hHeld ?_
                          rotate_left
                          · intro w' hSw
                            obtain ⟨f0, f1, f2, f3, f4, f5, f6, f7, f8, f9⟩ := hXn.below hSw hnb
                            (go_simp <;> with_reducible rfl)
                          try simp only [Act.put, List.getElem_toArray, List.getElem_cons_succ, List.getElem_cons_zero, List.setIfInBounds_toArray, List.set_cons_zero, List.set_cons_succ]
                          refine wpAnyH_take (i := 5) (oi := _) (v := ?_) rfl (by kernel_rfl) (by kernel_rfl) (by kernel_rfl) (fun _ _ _ h => h) (Or.inl ⟨by rfl, ?_⟩) hHeld ?_
                          rotate_left
                          · intro w' hSw
                            (go_simp <;> with_reducible rfl)
                          try simp only [Act.put, List.getElem_toArray, List.getElem_cons_succ, List.getElem_cons_zero, List.setIfInBounds_toArray, List.set_cons_zero, List.set_cons_succ]
                          refine wpAnyH_take (i := 6) (oi := _) (v := ?_) rfl (by kernel_rfl) (by kernel_rfl) (by kernel_rfl) (fun _ _ _ h => h) (Or.inl ⟨by rfl, ?_⟩) hHeld ?_
                          rotate_left
                          · intro w' hSw
                            obtain ⟨e0, e1, e2⟩ := (hVz.below hSw).at
                            (go_simp <;> with_reducible rfl)
                          try simp only [Act.put, List.getElem_toArray, List.getElem_cons_succ, List.getElem_cons_zero, List.setIfInBounds_toArray, List.set_cons_zero, List.set_cons_succ]
                          refine wpAnyH_take (i := 7) (oi := _) (v := ?_) rfl (by kernel_rfl) (by kernel_rfl) (by kernel_rfl) (fun _ _ _ h => h) (Or.inl ⟨by rfl, ?_⟩) hHeld ?_
                          rotate_left
                          · intro w' hSw
                            (go_simp <;> with_reducible rfl)
                          try simp only [Act.put, List.getElem_toArray, List.getElem_cons_succ, List.getElem_cons_zero, List.setIfInBounds_toArray, List.set_cons_zero, List.set_cons_succ]
                          refine wpAnyH_take (i := 8) (oi := _) (v := ?_) rfl (by kernel_rfl) (by kernel_rfl) (by kernel_rfl) (fun _ _ _ h => h) (Or.inl ⟨by rfl, ?_⟩) hHeld ?_
                          rotate_left
                          · intro w' hSw
                            (go_simp <;> with_reducible rfl)
                          try simp only [Act.put, List.getElem_toArray, List.getElem_cons_succ, List.getElem_cons_zero, List.setIfInBounds_toArray, List.set_cons_zero, List.set_cons_succ]
                          refine wpAnyH_take (i := 9) (oi := _) (v := ?_) rfl (by kernel_rfl) (by kernel_rfl) (by kernel_rfl) (fun _ _ _ h => h) (Or.inl ⟨by rfl, ?_⟩) hHeld ?_
                          rotate_left
                          · intro w' hSw
                            obtain ⟨f0, f1, f2, f3, f4, f5, f6, f7, f8, f9⟩ := hXz.below hSw hzb
                            (go_simp <;> with_reducible rfl)
                          try simp only [Act.put, List.getElem_toArray, List.getElem_cons_succ, List.getElem_cons_zero, List.setIfInBounds_toArray, List.set_cons_zero, List.set_cons_succ]
                          refine wpAnyH_ready (rs := [10]) (by kernel_rfl) (by simp) ?_
                          refine AllReadyH.cons (o := _) rfl (fun K hK => ?_) AllReadyH.nil
                          go_simp
                          go_at_call 30; refine (samething_yes Xn Xz (P.T.getD j th0) _ (hOn.below hHeld) (hOz.below hHeld)).mono ?_
                          rintro e w9 ⟨rfl, b9⟩
                          have b9 := bel_call hHeld (Nat.le_refl _) b9
                          refine hK.out _ _ b9 (fun _ => ?_)
                          refine wpAnyH_weaken (S' := fun w' => Below w9.heap.size w9 w') (fun w' h => bel_call b9 (Nat.le_refl _) h) _ _ _ _ ?_
                          clear hHeld hK K
                          have hHeld : Below w9.heap.size w9 w9 := Below.refl _ _
                          try simp only [Act.put, List.getElem_toArray, List.getElem_cons_succ, List.getElem_cons_zero, List.setIfInBounds_toArray, List.set_cons_zero, List.set_cons_succ]
                          refine wpAnyH_take (i := 11) (oi := _) (v := ?_) rfl (by kernel_rfl) (by kernel_rfl) (by kernel_rfl) (fun _ _ _ h => h) (Or.inl ⟨by rfl, ?_⟩) hHeld ?_
                          rotate_left
                          · intro w' hSw
                            (go_simp <;> with_reducible rfl)
                          try simp only [Act.put, List.getElem_toArray, List.getElem_cons_succ, List.getElem_cons_zero, List.setIfInBounds_toArray, List.set_cons_zero, List.set_cons_succ]
                          refine wpAnyH_done (by kernel_rfl) ?_ _
                          go_wp2
                          have bd := bel_call hbx (Nat.le_refl _) b9
                          go_roundw
                          case rel => exact ⟨j + 1, cn, by omega, by go_num, rfl, HC2.out, bd⟩
                          case measure => simp [intOf]; omega
                  · have hj12 : j = 12 := by omega
                    subst hj12
                    have hcm : cn = m := HC.out.symm.trans HM.out
                    subst hcm
                    have q1 : ((cn : Int) == (cn : Int)) = true := beq_self_eq_true _
                    have hVu := V7u.below hbx
                    clear c0 c1 c2
                    obtain ⟨c0, c1, c2⟩ := hVu.at
                    have hag := (aud_none 12 (again_none hM hPP)).1
                    have HAG : Hid ((audP (adR T).T 12).length = 0) := by show _ = _; rw [hag]; rfl
                    clear hag
                    go_wp2_with (go_at_call 19; refine (audit_any u3 (adR T) _ (t7u.below hbx) 0 HAG.out).mono ?_; rintro e w8 ⟨u8, p8, c8, p9, c9, rfl, _, _, _, b8⟩)
                    go_ret
                    exact ⟨rfl, bel_call (bel_call hB7 (Nat.le_refl _) hbx) (Nat.le_refl _) (bel_call b8 (Nat.le_refl _) (bel_self _ _))⟩
  · have d60 : decide ((ln : Int) > 12) = true := by simp; omega
    go_enter Try.func4, Try.ntmps4
    go_wp2_with (go_at_call 8; refine (begun_any _).mono ?_; rintro e w1 ⟨rfl, b1⟩)
    go_ret
    exact ⟨rfl, b1⟩
theorem apart_walki (lp : Option Addr) (lc : Nat) (Z : List Int) (w : World) (hr : Rd eBy w lp lc Z) (ln : Nat) (hl : Z.length = ln) (hz : ∀ y ∈ Z, 0 ≤ y ∧ y ≤ 255) (a b : Int) (ha : (Lit.int .u16 a).wf = true) (hb : (Lit.int .u16 b).wf = true) :
    Calls Try.prog 4 #[.slice lp ln lc, .int .u16 a, .int .u16 b] w fun e w' => e = .returned (.bool true) ∧ Below w.heap.size w w' := by
  have h1 := bounds_u16 ha
  have h2 := bounds_u16 hb
  obtain ⟨m, rfl⟩ := Int.eq_ofNat_of_zero_le h1.1
  obtain ⟨k, rfl⟩ := Int.eq_ofNat_of_zero_le h2.1
  exact apart_walk lp lc Z w hr ln hl hz m k (by omega) (by omega)
end Go.Proofs.Ytcncpefdjgnhdaa
