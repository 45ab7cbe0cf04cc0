/-
  What Make of the document hands back.
-/
import Derived.Test.YtcncpefdjgnhdaaStorq
import Derived.Test.YtcncpefdjgnhdaaTurnr
import Derived.Test.YtcncpefdjgnhdaaFresh
import Derived.Test.YtcncpefdjgnhdaaMakes
import Derived.Test.YtcncpefdjgnhdaaStorep
import Derived.Test.YtcncpefdjgnhdaaNlts
namespace Go.Proofs.Ytcncpefdjgnhdaa
open Go.ChangeShapes Go.WideShapes Go.ChangeAt Go.RowKit
attribute [local go_sem ↓] Go.wp_at_zero Go.wp_at_succ

theorem freshT_c (k a g : Int) (w : World) (S : Nat) (hS : (freshT k a g 8).s = S) (C : Int) (hC : (if k = 1 then 8 else 0) = C) :
    Calls Try.prog 48 #[.int .i64 k, .agg #[.int .i64 a, .int .i64 g]] w fun e w' => e = .returned (.agg #[.int .i64 k, .int .i64 a, .int .i64 g, .int .i64 C, .int .i64 0, .slice none 0 0, .slice none 0 0, .int .u32 0, .slice none 0 0, .int .u32 (S : Int)]) ∧ Below w.heap.size w w' := by
  subst hC
  exact freshT_any k a g w S hS
set_option maxRecDepth 20000 in
set_option maxHeartbeats 8000000 in
theorem rmake_any (x : Tw) (T : Tb) (N : Nat) (w : World) (ht : Tr w x T) (hw : Wf N T) (hN : N ≤ 1000) (k : Int) (B : Bool) (hB : mkOk T k = B) (A G : Int) (hA : mkA T k = A) (hG : mkG T k = G) :
    Calls Try.prog 23 #[.agg #[.slice x.gp 12 x.gc, .slice x.ip 12 x.ic, .slice x.tp 12 x.tc], .int .i64 k] w fun e w' => ∃ z : Tw, e = .returned (.tuple #[.agg #[.slice z.gp 12 z.gc, .slice z.ip 12 z.ic, .slice z.tp 12 z.tc], .agg #[.int .i64 A, .int .i64 G], .bool B]) ∧ Tr w' z (mkR T k) ∧ Below w.heap.size w w' := by
  obtain ⟨W, hW⟩ : ∃ W, W = ((w.alloc (.cells #[.slice x.gp 12 x.gc, .slice x.ip 12 x.ic, .slice x.tp 12 x.tc] 35)).alloc (.cells #[.slice none 0 0, .slice none 0 0, .slice none 0 0] 35)).alloc (.cells #[.int .i64 0, .int .i64 0] 38) := ⟨_, rfl⟩
  have bW : Below w.heap.size w W := by rw [hW]; exact (((Below.refl _ _).alloc (Nat.le_refl _) _).alloc (by simp) _).alloc (by simp; omega) _
  have hsz : W.heap.size = w.heap.size + 3 := by rw [hW]; simp
  have hV : Vw W w.heap.size x 35 := by rw [hW]; exact ((Vw.new _ _ _).below (bel_self _ _)).below (bel_self _ _)
  have hR : Lv W (w.heap.size + 1) #[.slice none 0 0, .slice none 0 0, .slice none 0 0] 35 := by rw [hW]; exact Lv.below (heap_at (by simp)) (bel_self _ _)
  have hH : Lv W (w.heap.size + 1 + 1) #[.int .i64 0, .int .i64 0] 38 := by rw [hW]; exact heap_at (by simp)
  have hT := ht.below bW
  obtain ⟨m, hm⟩ : ∃ m, (plc k T.T 12).length = m := ⟨_, rfl⟩
  have hm12 : m ≤ 12 := by rw [← hm]; exact plc_le k T.T 12
  have HM : Hid ((plc k T.T 12).length = m) := hm
  obtain ⟨mo, hmo⟩ : ∃ mo, mostN k = mo := ⟨_, rfl⟩
  have HMO : Hid (mostN k = mo) := hmo
  obtain ⟨fr, hfr⟩ : ∃ fr, Slo.tOk T.G T.I = fr := ⟨_, rfl⟩
  obtain ⟨tA, hta⟩ : ∃ tA, Slo.tAt T.G T.I = tA := ⟨_, rfl⟩
  obtain ⟨tG, htg⟩ : ∃ tG, Slo.tGen T.G T.I = tG := ⟨_, rfl⟩
  have HF : Hid (Slo.tOk T.G T.I = fr ∧ Slo.tAt T.G T.I = tA ∧ Slo.tGen T.G T.I = tG) := ⟨hfr, hta, htg⟩
  have HBB : Hid (mkOk T k = B ∧ mkA T k = A ∧ mkG T k = G) := ⟨hB, hA, hG⟩
  have hmo4 : mo ≤ 4 := by rw [← hmo]; unfold mostN; split <;> omega
  obtain ⟨c0, c1, c2⟩ := hV.at
  clear hm hmo hfr hta htg hB hA hG
  go_enter Try.func23, Try.ntmps23
  go_wp2
  rw [← hW]
  clear hW
  go_loopw [7, 8] (fun n i wr => ∃ j l : Nat, j ≤ 12 ∧ i = .int .i64 j ∧ n = .int .i64 l ∧ (plc k T.T j).length = l ∧ wr = W) (fun _ i _ => 12 - (intOf i).toNat)
  case atStart => exact ⟨0, 0, Nat.zero_le _, rfl, rfl, rfl, rfl⟩
  case round =>
    obtain ⟨j, l, hj, rfl, rfl, hl, rfl⟩ := hrel
    have HL : Hid ((plc k T.T j).length = l) := hl
    have hl9 : l ≤ 12 := by have := plc_le k T.T j; omega
    clear hl
    by_cases hlt : j < 12
    · obtain ⟨b, o, X, e9, hb, hc, ho⟩ := hT.thing j hlt
      rw [e9] at c2
      have f0 := hc.c0
      have HP : Hid (plc k T.T (j + 1) = plc k T.T j ++ if X.k = k then [(j : Int)] else []) := by
        show _ = _
        rw [ho.k]; rfl
      clear hc ho e9
      by_cases hx : X.k = k
      · have hx1 : (X.k == k) = true := by simpa using hx
        have hx2 : decide (X.k = k) = true := by simpa using hx
        have HP2 : Hid ((plc k T.T (j + 1)).length = l + 1) := by show _ = _; rw [HP.out, if_pos hx, List.length_append, HL.out]; rfl
        clear HP hx
        go_wp2
        go_roundw
        case rel => exact ⟨j + 1, l + 1, by omega, by go_num, by go_num, HP2.out, trivial⟩
        case measure => simp [intOf]; omega
      · have hx1 : (X.k == k) = false := by simpa using hx
        have hx2 : decide (X.k = k) = false := by simpa using hx
        have HP2 : Hid ((plc k T.T (j + 1)).length = l) := by show _ = _; rw [HP.out, if_neg hx, List.append_nil, HL.out]
        clear HP hx
        go_wp2
        go_roundw
        case rel => exact ⟨j + 1, l, by omega, by go_num, rfl, HP2.out, trivial⟩
        case measure => simp [intOf]; omega
    · have hj12 : j = 12 := by omega
      subst hj12
      clear hlt hj
      have hlm : l = m := HL.out.symm.trans HM.out
      subst hlm
      have hmost : (mo = 4 ∧ (k = 1 ∨ k = 2 ∨ k = 3)) ∨ (mo = 0 ∧ k ≠ 1 ∧ k ≠ 2 ∧ k ≠ 3) := by
        rw [← HMO.out]
        unfold mostN
        by_cases h : k = 1 ∨ k = 2 ∨ k = 3
        · left; rw [if_pos h]; exact ⟨rfl, h⟩
        · right; rw [if_neg h]; omega
      rcases hmost with ⟨hmo, h1 | h1 | h1⟩ | ⟨hmo, h1, h2, h3⟩
      · subst hmo
        have y1 : (k == 1) = true := by simpa using h1
        have z1 : decide (k = 1) = true := by simpa using h1
        by_cases hlm : 4 ≤ l
        · have d1 : decide ((4 : Int) ≤ (l : Int)) = true := by simp; omega
          have hQ : B = false ∧ A = 0 ∧ G = 0 := by
            have hf : mkOk T k = false := by unfold mkOk; rw [HM.out, HMO.out]; simp; omega
            refine ⟨by rw [← HBB.out.1, hf], by rw [← HBB.out.2.1]; unfold mkA; rw [hf]; rfl, by rw [← HBB.out.2.2]; unfold mkG; rw [hf]; rfl⟩
          have HT : Hid (mkR T k = T) := by
            have hf : mkOk T k = false := by unfold mkOk; rw [HM.out, HMO.out]; simp; omega
            show _ = _; unfold mkR; rw [hf]; rfl
          clear h1
          go_wp2_with (first
            | (go_at_call 52; refine (rtake_t x T N _ hT hw hN tA tG fr HF.out.2.1 HF.out.2.2 HF.out.1).mono ?_; rintro e w2 ⟨sp, sc, sq, sd, rfl, r1, r2, nn1, nn2, b2⟩; have s2 : Below w2.heap.size w2 ((w2.alloc (.cells #[.slice sp 12 sc, .slice sq 12 sd] 32)).alloc (.cells #[.int .i64 tA, .int .i64 tG] 38)) := ((Below.refl _ _).alloc (Nat.le_refl _) _).alloc (by simp) _; have a3 := bel_call b2 (Nat.le_refl _) s2; have S3 : Lv ((w2.alloc (.cells #[.slice sp 12 sc, .slice sq 12 sd] 32)).alloc (.cells #[.int .i64 tA, .int .i64 tG] 38)) w2.heap.size #[.slice sp 12 sc, .slice sq 12 sd] 32 := Lv.below (Lv.new _ _ _) (bel_self _ _); have H3 : Lv ((w2.alloc (.cells #[.slice sp 12 sc, .slice sq 12 sd] 32)).alloc (.cells #[.int .i64 tA, .int .i64 tG] 38)) (w2.heap.size + 1) #[.int .i64 tA, .int .i64 tG] 38 := heap_at (by simp); have R3 := hR.below a3; have J3 := hH.below a3; clear c0 c1 c2; obtain ⟨c0, c1, c2⟩ := (hV.below a3).at)
            | (refine wpList_stV (E := eTb) rfl 35 (.tmp 4) (.tmp 60) rfl size35 (w.heap.size + 1) _ R3 rfl x rfl rfl ?_; intro w9 L9 k9; have H9 := J3.kp k9 (by omega); have h90 := H9.c 0 rfl; have h91 := H9.c 1 rfl; have z90 := H9.fz 0; have z91 := H9.fz 1))
          have e9 := load35 L9
          have B9 : Below w.heap.size w w9 := bel_kp (bel_call bW (Nat.le_refl _) a3) k9 (by omega) (bel_call bW (Nat.le_refl _) a3).size
          have L10 : Lv ((w9.setCell ⟨w.heap.size + 1 + 1, 0, none⟩ (.int .i64 0)).setCell ⟨w.heap.size + 1 + 1, 1, none⟩ (.int .i64 0)) (w.heap.size + 1) _ 35 := (L9.far (a := ⟨w.heap.size + 1 + 1, 0, none⟩) (by simp) _).far (a := ⟨w.heap.size + 1 + 1, 1, none⟩) (by simp) _
          have e10 := load35 (x := x) L10
          have H10 := (H9.set 0 (.int .i64 0)).set 1 (.int .i64 0)
          have e11 := load38 (a := 0) (b := 0) H10
          have B10 := Below.setCell (Below.setCell B9 (p := ⟨w.heap.size + 1 + 1, 0, none⟩) (by show w.heap.size ≤ w.heap.size + 1 + 1; omega) (.int .i64 0)) (p := ⟨w.heap.size + 1 + 1, 1, none⟩) (by show w.heap.size ≤ w.heap.size + 1 + 1; omega) (.int .i64 0)
          refine bodyPost_ret (v := .tuple #[.agg #[.slice x.gp 12 x.gc, .slice x.ip 12 x.ic, .slice x.tp 12 x.tc], .agg #[.int .i64 0, .int .i64 0], .bool false]) (by simp [results, Try.results23, asAddr, e10, e11]) rfl ⟨x, by first | rfl | (rw [hQ.1, hQ.2.1, hQ.2.2]; done), ?_, B10⟩
          rw [HT.out]
          exact ht.below B10
        · have d1 : decide ((4 : Int) ≤ (l : Int)) = false := by simp; omega
          cases fr with
          | false =>
            have hQ : B = false ∧ A = 0 ∧ G = 0 := by
              have hf : mkOk T k = false := by unfold mkOk; rw [HF.out.1]; rfl
              refine ⟨by rw [← HBB.out.1, hf], by rw [← HBB.out.2.1]; unfold mkA; rw [hf]; rfl, by rw [← HBB.out.2.2]; unfold mkG; rw [hf]; rfl⟩
            have HT : Hid (mkR T k = T) := by
              have hf : mkOk T k = false := by unfold mkOk; rw [HF.out.1]; rfl
              show _ = _; unfold mkR; rw [hf]; rfl
            clear h1
            go_wp2_with (first
              | (go_at_call 52; refine (rtake_t x T N _ hT hw hN tA tG false HF.out.2.1 HF.out.2.2 HF.out.1).mono ?_; rintro e w2 ⟨sp, sc, sq, sd, rfl, r1, r2, nn1, nn2, b2⟩; have s2 : Below w2.heap.size w2 ((w2.alloc (.cells #[.slice sp 12 sc, .slice sq 12 sd] 32)).alloc (.cells #[.int .i64 tA, .int .i64 tG] 38)) := ((Below.refl _ _).alloc (Nat.le_refl _) _).alloc (by simp) _; have a3 := bel_call b2 (Nat.le_refl _) s2; have S3 : Lv ((w2.alloc (.cells #[.slice sp 12 sc, .slice sq 12 sd] 32)).alloc (.cells #[.int .i64 tA, .int .i64 tG] 38)) w2.heap.size #[.slice sp 12 sc, .slice sq 12 sd] 32 := Lv.below (Lv.new _ _ _) (bel_self _ _); have H3 : Lv ((w2.alloc (.cells #[.slice sp 12 sc, .slice sq 12 sd] 32)).alloc (.cells #[.int .i64 tA, .int .i64 tG] 38)) (w2.heap.size + 1) #[.int .i64 tA, .int .i64 tG] 38 := heap_at (by simp); have R3 := hR.below a3; have J3 := hH.below a3; clear c0 c1 c2; obtain ⟨c0, c1, c2⟩ := (hV.below a3).at)
              | (refine wpList_stV (E := eTb) rfl 35 (.tmp 4) (.tmp 60) rfl size35 (w.heap.size + 1) _ R3 rfl x rfl rfl ?_; intro w9 L9 k9; have H9 := J3.kp k9 (by omega); have h90 := H9.c 0 rfl; have h91 := H9.c 1 rfl; have z90 := H9.fz 0; have z91 := H9.fz 1))
            have e9 := load35 L9
            have B9 : Below w.heap.size w w9 := bel_kp (bel_call bW (Nat.le_refl _) a3) k9 (by omega) (bel_call bW (Nat.le_refl _) a3).size
            have L10 : Lv ((w9.setCell ⟨w.heap.size + 1 + 1, 0, none⟩ (.int .i64 0)).setCell ⟨w.heap.size + 1 + 1, 1, none⟩ (.int .i64 0)) (w.heap.size + 1) _ 35 := (L9.far (a := ⟨w.heap.size + 1 + 1, 0, none⟩) (by simp) _).far (a := ⟨w.heap.size + 1 + 1, 1, none⟩) (by simp) _
            have e10 := load35 (x := x) L10
            have H10 := (H9.set 0 (.int .i64 0)).set 1 (.int .i64 0)
            have e11 := load38 (a := 0) (b := 0) H10
            have B10 := Below.setCell (Below.setCell B9 (p := ⟨w.heap.size + 1 + 1, 0, none⟩) (by show w.heap.size ≤ w.heap.size + 1 + 1; omega) (.int .i64 0)) (p := ⟨w.heap.size + 1 + 1, 1, none⟩) (by show w.heap.size ≤ w.heap.size + 1 + 1; omega) (.int .i64 0)
            refine bodyPost_ret (v := .tuple #[.agg #[.slice x.gp 12 x.gc, .slice x.ip 12 x.ic, .slice x.tp 12 x.tc], .agg #[.int .i64 0, .int .i64 0], .bool false]) (by simp [results, Try.results23, asAddr, e10, e11]) rfl ⟨x, by first | rfl | (rw [hQ.1, hQ.2.1, hQ.2.2]; done), ?_, B10⟩
            rw [HT.out]
            exact ht.below B10
          | true =>
            clear h1
            have hlt : l < 4 := by omega
            have hfT : mkOk T k = true := by unfold mkOk; rw [HM.out, HMO.out, HF.out.1]; simpa using hlt
            obtain ⟨q, hq⟩ := Option.isSome_iff_exists.1 (show (Slo.freeIn T.G T.I).isSome = true from HF.out.1)
            obtain ⟨hq12, _⟩ := free_of hw hq
            have hqA : tA = (q : Int) := by rw [← HF.out.2.1]; unfold Slo.tAt; rw [hq]
            subst hqA
            have hQ : B = true ∧ A = (q : Int) ∧ G = tG := ⟨by rw [← HBB.out.1, hfT], by rw [← HBB.out.2.1]; unfold mkA; rw [hfT]; exact HF.out.2.1, by rw [← HBB.out.2.2]; unfold mkG; rw [hfT]; exact HF.out.2.2⟩
            have HT : Hid (mkR T k = ⟨Slo.tg T.G T.I, Slo.tb T.G T.I, T.T.set q (freshT k (q : Int) tG 8)⟩) := by show _ = _; unfold mkR mkT; rw [hfT, HF.out.2.1, HF.out.2.2]; rfl
            obtain ⟨S, hS⟩ : ∃ S, (freshT k (q : Int) tG 8).s = S := ⟨_, rfl⟩
            have HS : Hid ((freshT k (q : Int) tG 8).s = S) := hS
            have hqI : (q : Int) < 12 := by omega
            obtain ⟨C, hC⟩ : ∃ C, (if k = 1 then (8 : Int) else 0) = C := ⟨_, rfl⟩
            have HC : Hid ((if k = 1 then (8 : Int) else 0) = C) := hC
            clear hC
            have hqZ : (0 : Int) ≤ (q : Int) := by omega
            have dq : decide ((12 : Int) ≤ (q : Int)) = false := by simp; omega
            have HLn : Hid ((Slo.tg T.G T.I).length = 12 ∧ (Slo.tb T.G T.I).length = 12) := ⟨by rw [Slo.tg_len]; exact ht.gl, by rw [Slo.tb_len]; exact ht.il⟩
            have okN : Ok w (⟨k, (q : Int), tG, C, 0, none, 0, 0, none, 0, 0, 0, none, 0, 0, S⟩ : Tc) (freshT k (q : Int) tG 8) := Ok.freshC w k (q : Int) tG 8 S HS.out C HC.out
            obtain ⟨xs, hxs, hts⟩ := ht.R
            have HXL : Hid (xs.length = 12) := by show _ = _; rw [hts.1, ht.tl]
            clear hS hq hfT
            go_wp2_with (first
              | (go_at_call 52; refine (rtake_t x T N _ hT hw hN (q : Int) tG true HF.out.2.1 HF.out.2.2 HF.out.1).mono ?_; rintro e w2 ⟨sp, sc, sq, sd, rfl, r1, r2, nn1, nn2, b2⟩; have s2 : Below w2.heap.size w2 ((w2.alloc (.cells #[.slice sp 12 sc, .slice sq 12 sd] 32)).alloc (.cells #[.int .i64 (q : Int), .int .i64 tG] 38)) := ((Below.refl _ _).alloc (Nat.le_refl _) _).alloc (by simp) _; have a3 := bel_call b2 (Nat.le_refl _) s2; have S3 : Lv ((w2.alloc (.cells #[.slice sp 12 sc, .slice sq 12 sd] 32)).alloc (.cells #[.int .i64 (q : Int), .int .i64 tG] 38)) w2.heap.size #[.slice sp 12 sc, .slice sq 12 sd] 32 := Lv.below (Lv.new _ _ _) (bel_self _ _); have H3 : Lv ((w2.alloc (.cells #[.slice sp 12 sc, .slice sq 12 sd] 32)).alloc (.cells #[.int .i64 (q : Int), .int .i64 tG] 38)) (w2.heap.size + 1) #[.int .i64 (q : Int), .int .i64 tG] 38 := heap_at (by simp); have R3 := hR.below a3; have J3 := hH.below a3; clear c0 c1 c2; obtain ⟨c0, c1, c2⟩ := (hV.below a3).at; have h0 := H3.c 0 rfl; have h1q := H3.c 1 rfl))
            have hgh : w2.heap.size + 1 < ((w2.alloc (.cells #[.slice sp 12 sc, .slice sq 12 sd] 32)).alloc (.cells #[.int .i64 (q : Int), .int .i64 tG] 38)).heap.size := H3.lt
            have l2 := b2.size
            have fp1 : Nlt sp w2.heap.size := r1.nlt (by rw [HLn.out.1]; decide)
            have fp2 : Nlt sq w2.heap.size := r2.nlt (by rw [HLn.out.2]; decide)
            have r1 := r1.below s2
            have r2 := r2.below s2
            have V3 := hV.below a3
            have bW4 := bel_call bW (Nat.le_refl _) a3
            have ls2 := s2.size
            have fp1 := fp1.mono1 ls2
            have fp2 := fp2.mono1 ls2
            clear c0 c1 c2 h0 h1q
            generalize ((w2.alloc (.cells #[.slice sp 12 sc, .slice sq 12 sd] 32)).alloc (.cells #[.int .i64 (q : Int), .int .i64 tG] 38)) = w4 at *
            obtain ⟨gh, hghE⟩ : ∃ gh, gh = w2.heap.size + 1 := ⟨_, rfl⟩
            have qh1 : w.heap.size + 3 ≤ gh := by omega
            rw [← hghE] at H3 hgh
            have qh4 : gh < w4.heap.size := hgh
            try simp only [← hghE]
            clear hghE hgh
            have R4 := R3
            have J4 := J3
            clear R3 J3
            refine wp_region_held_drew (S := fun w' => Below w4.heap.size w4 w') (by kernel_rfl) (Below.refl _ _).drew (fun hHeld => ?_)
            refine wpAnyH_take (i := 0) (oi := _) (v := ?_) rfl (by kernel_rfl) (by kernel_rfl) (by kernel_rfl) (fun _ _ _ h => h) (Or.inl ⟨by rfl, ?_⟩) hHeld ?_
            rotate_left
            · intro w' hSw
              obtain ⟨c0, c1, c2⟩ := (V3.below hSw).at
              have h0 := (H3.below hSw).c 0 rfl
              have h1 := (H3.below hSw).c 1 rfl
              (go_simp <;> with_reducible rfl)
            try simp only [Act.put, List.getElem_toArray, List.getElem_cons_zero, List.setIfInBounds_toArray, List.set_cons_zero, List.set_cons_succ]
            refine wpAnyH_take (i := 1) (oi := _) (v := ?_) rfl (by kernel_rfl) (by kernel_rfl) (by kernel_rfl) (fun _ _ _ h => h) (Or.inl ⟨by rfl, ?_⟩) hHeld ?_
            rotate_left
            · intro w' hSw
              (go_simp <;> with_reducible rfl)
            try simp only [Act.put, List.getElem_toArray, List.getElem_cons_succ, List.getElem_cons_zero, List.setIfInBounds_toArray, List.set_cons_zero, List.set_cons_succ]
            refine wpAnyH_take (i := 2) (oi := _) (v := ?_) rfl (by kernel_rfl) (by kernel_rfl) (by kernel_rfl) (fun _ _ _ h => h) (Or.inl ⟨by rfl, ?_⟩) hHeld ?_
            rotate_left
            · intro w' hSw
              obtain ⟨c0, c1, c2⟩ := (V3.below hSw).at
              have h0 := (H3.below hSw).c 0 rfl
              have h1 := (H3.below hSw).c 1 rfl
              (go_simp <;> with_reducible rfl)
            try simp only [Act.put, List.getElem_toArray, List.getElem_cons_succ, List.getElem_cons_zero, List.setIfInBounds_toArray, List.set_cons_zero, List.set_cons_succ]
            refine wpAnyH_take (i := 3) (oi := _) (v := ?_) rfl (by kernel_rfl) (by kernel_rfl) (by kernel_rfl) (fun _ _ _ h => h) (Or.inl ⟨by rfl, ?_⟩) hHeld ?_
            rotate_left
            · intro w' hSw
              (go_simp <;> with_reducible rfl)
            try simp only [Act.put, List.getElem_toArray, List.getElem_cons_succ, List.getElem_cons_zero, List.setIfInBounds_toArray, List.set_cons_zero, List.set_cons_succ]
            refine wpAnyH_take (i := 4) (oi := _) (v := ?_) rfl (by kernel_rfl) (by kernel_rfl) (by kernel_rfl) (fun _ _ _ h => h) (Or.inl ⟨by rfl, ?_⟩) hHeld ?_
            rotate_left
            · intro w' hSw
              obtain ⟨c0, c1, c2⟩ := (V3.below hSw).at
              have h0 := (H3.below hSw).c 0 rfl
              have h1 := (H3.below hSw).c 1 rfl
              (go_simp <;> with_reducible rfl)
            try simp only [Act.put, List.getElem_toArray, List.getElem_cons_succ, List.getElem_cons_zero, List.setIfInBounds_toArray, List.set_cons_zero, List.set_cons_succ]
            refine wpAnyH_ready (rs := [5, 7]) (by kernel_rfl) (by simp) ?_
            refine AllReadyH.cons (o := _) rfl (fun K hK => ?_) (AllReadyH.cons (o := _) rfl (fun K hK => ?_) (AllReadyH.nil))
            · go_simp
              go_at_call 48; refine (freshT_c k (q : Int) tG _ S HS.out C HC.out).mono ?_
              rintro e w5 ⟨rfl, b5'⟩
              have b5 := bel_call (Below.refl w4.heap.size w4).drew (Nat.le_refl _) b5'
              have lz5 := b5.size
              refine hK.out _ _ b5 (fun hHeld => ?_)
              clear hK K
              try simp only [Act.put, List.getElem_toArray, List.getElem_cons_succ, List.getElem_cons_zero, List.setIfInBounds_toArray, List.set_cons_zero, List.set_cons_succ]
              refine wpAnyH_ready (rs := [6, 7]) (by kernel_rfl) (by simp) ?_
              refine AllReadyH.cons (o := _) rfl (fun K hK => ?_) (AllReadyH.cons (o := _) rfl (fun K hK => ?_) (AllReadyH.nil))
              · go_simp
                go_at_call 39; refine (with_own x xs _ (hxs.below (bW4.trans (b5.mono bW4.size))) HXL.out q hq12 (⟨k, (q : Int), tG, C, 0, none, 0, 0, none, 0, 0, 0, none, 0, 0, S⟩ : Tc)).mono ?_
                rintro e w6 ⟨p6, c6, rfl, o6, b6'⟩
                have lz6 := b6'.size
                have b6 := bel_call b5 (Nat.le_refl _) b6'
                refine hK.out _ _ b6 (fun hHeld => ?_)
                clear hK K
                try simp only [Act.put, List.getElem_toArray, List.getElem_cons_succ, List.getElem_cons_zero, List.setIfInBounds_toArray, List.set_cons_zero, List.set_cons_succ]
                refine wpAnyH_ready (rs := [7]) (by kernel_rfl) (by simp) ?_
                refine AllReadyH.cons (o := _) rfl (fun K hK => ?_) (AllReadyH.nil)
                go_simp
                have hv : Lv (w6.alloc (.cells #[.slice none 0 0, .slice none 0 0, .slice none 0 0] 35)) w6.heap.size #[.slice none 0 0, .slice none 0 0, .slice none 0 0] 35 := Lv.new _ _ _
                have bv : Below w4.heap.size w4 (w6.alloc (.cells #[.slice none 0 0, .slice none 0 0, .slice none 0 0] 35)) := b6.alloc b6.size _
                have o6 := own_below o6 (bel_self w6 (.cells #[.slice none 0 0, .slice none 0 0, .slice none 0 0] 35))
                have lzv := bv.size
                have hge : w4.heap.size ≤ w6.heap.size := b6.size
                generalize hgW : (w6.alloc (.cells #[.slice none 0 0, .slice none 0 0, .slice none 0 0] 35)) = wv at *
                clear hgW
                obtain ⟨gv, hgv⟩ : ∃ gv, gv = w6.heap.size := ⟨_, rfl⟩
                rw [← hgv] at hv hge
                try simp only [← hgv]
                clear hgv
                refine hK.out _ _ bv (fun hHeld => ?_)
                clear hK K
                try simp only [Act.put, List.getElem_toArray, List.getElem_cons_succ, List.getElem_cons_zero, List.setIfInBounds_toArray, List.set_cons_zero, List.set_cons_succ]
                refine wpAnyH_ready (rs := [8]) (by kernel_rfl) (by simp) ?_
                refine AllReadyH.cons (o := _) rfl (fun K hK => ?_) (AllReadyH.nil)
                refine step_stV (E := eTb) rfl 35 _ _ rfl size35 gv _ hv rfl (⟨x.gp, x.gc, x.ip, x.ic, p6, c6⟩ : Tw) rfl rfl ?_
                intro w7 L7 k7
                have b7 : Below w4.heap.size w4 w7 := bel_kp bv k7 hge bv.size
                have ft : Far p6 gv := Far.type o6 hv (by decide)
                have o7 := own_block_eq (w' := w7) o6 (fun b o e => k7.block b (by subst e; exact own_lt o6) (by intro h; have h := Option.some.inj h; exact ft b o e h))
                refine hK.out _ _ b7 (fun hHeld => ?_)
                clear hK K
                try simp only [Act.put, List.getElem_toArray, List.getElem_cons_succ, List.getElem_cons_zero]
                refine wpAnyH_done (by kernel_rfl) ?_ _
                have l7 : w4.heap.size ≤ w7.heap.size := b7.size
                have H7 := H3.below b7
                have S7 := S3.below b7
                have t0 := S7.c 0 rfl
                have t1 := S7.c 1 rfl
                have N7 : Vw w7 gv (⟨x.gp, x.gc, x.ip, x.ic, p6, c6⟩ : Tw) 35 := L7
                have r17 := r1.below b7
                have r27 := r2.below b7
                go_wp2_with (refine wpList_stP rfl 32 (.tmp 70) (.tmp 69) rfl gv 0 _ 35 N7 [.slice sp 12 sc, .slice sq 12 sd] size32p (by simp) (by intro v hv; simp at hv; rcases hv with rfl | rfl <;> rfl) rfl rfl ?_; intro w8 Q8 k8)
                have N8 : Vw w8 gv (⟨sp, sc, sq, sd, p6, c6⟩ : Tw) 35 := Q8
                have f8 : Far p6 gv := Far.type o7 N7 (by decide)
                have o8 := own_block_eq (w' := w8) o7 (fun b o e => k8.block b (by subst e; exact own_lt o7) (by intro h; have h := Option.some.inj h; exact f8 b o e h))
                have H8 := H7.kp k8 (by omega)
                have R8 : Lv w8 (w.heap.size + 1) #[.slice none 0 0, .slice none 0 0, .slice none 0 0] 35 := (R4.below b7).kp k8 (by omega)
                have J8 : Lv w8 (w.heap.size + 1 + 1) #[.int .i64 0, .int .i64 0] 38 := (J4.below b7).kp k8 (by omega)
                have r18 := rd_kpF r17 k8 (fp1.mono2 hge)
                have r28 := rd_kpF r27 k8 (fp2.mono2 hge)
                have qv2 : gv < w8.heap.size := N8.lt
                have qh2 : gh < w8.heap.size := H8.lt
                have lz8 := k8.size
                have B8 : Below w.heap.size w w8 := bel_kp (bW4.trans (b7.mono bW4.size)) k8 (by omega) (bW4.trans (b7.mono bW4.size)).size
                have hw4 := bW4.size
                clear hHeld t0 t1 N7 S7 H7 Q8
                refine wp_region_held_drew (S := fun w' => w'.heap[gv]? = w8.heap[gv]? ∧ w'.heap[gh]? = w8.heap[gh]?) (by kernel_rfl) ⟨rfl, rfl⟩ (fun hHeld => ?_)
                refine wpAnyH_take (i := 0) (oi := _) (v := ?_) rfl (by kernel_rfl) (by kernel_rfl) (by kernel_rfl) (fun _ _ _ h => h) (Or.inl ⟨by rfl, ?_⟩) hHeld ?_
                rotate_left
                · intro w' hSw
                  obtain ⟨e0, e1, e2⟩ := Vw.at (show Vw w' gv (⟨sp, sc, sq, sd, p6, c6⟩ : Tw) 35 from hSw.1.trans N8)
                  have h0 := Lv.c (show Lv w' gh #[.int .i64 (q : Int), .int .i64 tG] 38 from hSw.2.trans H8) 0 rfl
                  have h1 := Lv.c (show Lv w' gh #[.int .i64 (q : Int), .int .i64 tG] 38 from hSw.2.trans H8) 1 rfl
                  (go_simp <;> with_reducible rfl)
                try simp only [Act.put, List.getElem_toArray, List.getElem_cons_zero, List.setIfInBounds_toArray, List.set_cons_zero, List.set_cons_succ]
                refine wpAnyH_take (i := 1) (oi := _) (v := ?_) rfl (by kernel_rfl) (by kernel_rfl) (by kernel_rfl) (fun _ _ _ h => h) (Or.inl ⟨by rfl, ?_⟩) hHeld ?_
                rotate_left
                · intro w' hSw
                  obtain ⟨e0, e1, e2⟩ := Vw.at (show Vw w' gv (⟨sp, sc, sq, sd, p6, c6⟩ : Tw) 35 from hSw.1.trans N8)
                  have h0 := Lv.c (show Lv w' gh #[.int .i64 (q : Int), .int .i64 tG] 38 from hSw.2.trans H8) 0 rfl
                  have h1 := Lv.c (show Lv w' gh #[.int .i64 (q : Int), .int .i64 tG] 38 from hSw.2.trans H8) 1 rfl
                  (go_simp <;> with_reducible rfl)
                try simp only [Act.put, List.getElem_toArray, List.getElem_cons_succ, List.getElem_cons_zero, List.setIfInBounds_toArray, List.set_cons_zero, List.set_cons_succ]
                refine wpAnyH_ready (rs := [2]) (by kernel_rfl) (by simp) ?_
                refine AllReadyH.cons (o := _) rfl (fun K hK => ?_) (AllReadyH.nil)
                refine step_stV (E := eTb) rfl 35 _ _ rfl size35 (w.heap.size + 1) _ (Lv.draw R8) rfl (⟨sp, sc, sq, sd, p6, c6⟩ : Tw) rfl rfl ?_
                intro w9 L9 k9
                have lz9 : w8.heap.size ≤ w9.heap.size := k9.size
                have hS9 : w9.heap[gv]? = w8.heap[gv]? ∧ w9.heap[gh]? = w8.heap[gh]? := ⟨k9.block gv (by show gv < w8.heap.size; omega) (by intro h; have h := Option.some.inj h; omega), k9.block gh (by show gh < w8.heap.size; omega) (by intro h; have h := Option.some.inj h; omega)⟩
                have J9 := Lv.kp (Lv.draw J8) k9 (by omega)
                refine hK.out _ _ hS9 (fun hHeld => ?_)
                clear hK K
                try simp only [Act.put, List.getElem_toArray, List.getElem_cons_succ, List.getElem_cons_zero]
                refine wpAnyH_ready (rs := [3]) (by kernel_rfl) (by simp) ?_
                refine AllReadyH.cons (o := _) rfl (fun K hK => ?_) (AllReadyH.nil)
                refine step_stV (E := eH) rfl 38 _ _ rfl size38 (w.heap.size + 1 + 1) _ J9 rfl ((q : Int), tG) rfl rfl ?_
                intro w10 L10 k10
                have hS10 : w10.heap[gv]? = w8.heap[gv]? ∧ w10.heap[gh]? = w8.heap[gh]? := ⟨(k10.block gv (by omega) (by intro h; have h := Option.some.inj h; omega)).trans hS9.1, (k10.block gh (by omega) (by intro h; have h := Option.some.inj h; omega)).trans hS9.2⟩
                refine hK.out _ _ hS10 (fun hHeld => ?_)
                clear hK K
                try simp only [Act.put, List.getElem_toArray, List.getElem_cons_succ, List.getElem_cons_zero]
                refine wpAnyH_take (i := 4) (oi := _) (v := ?_) rfl (by kernel_rfl) (by kernel_rfl) (by kernel_rfl) (fun _ _ _ h => h) (Or.inl ⟨by rfl, ?_⟩) hHeld ?_
                rotate_left
                · intro w' hSw
                  (go_simp <;> with_reducible rfl)
                try simp only [Act.put, List.getElem_toArray, List.getElem_cons_succ, List.getElem_cons_zero, List.setIfInBounds_toArray, List.set_cons_zero, List.set_cons_succ]
                refine wpAnyH_done (by kernel_rfl) ?_ _
                have e9 := load35 (x := (⟨sp, sc, sq, sd, p6, c6⟩ : Tw)) (Lv.kp L9 k10 (by omega))
                have e10 := load38 L10
                have B9 : Below w.heap.size w w9 := bel_kp B8.drew k9 (by omega) (by have := B8.size; exact this)
                have B10 : Below w.heap.size w w10 := bel_kp B9 k10 (by omega) B9.size
                have o10 := own_kp (own_kp (own_below o8 (Below.refl _ _).drew) k9 (by omega)) k10 (by omega)
                have g10 := rd_kpF (rd_kpF (r18.below (Below.refl _ _).drew) k9 (nn1.far (by omega))) k10 (nn1.far (by omega))
                have i10 := rd_kpF (rd_kpF (r28.below (Below.refl _ _).drew) k9 (nn2.far (by omega))) k10 (nn2.far (by omega))
                go_wp2
                refine bodyPost_ret (v := .tuple #[.agg #[.slice sp 12 sc, .slice sq 12 sd, .slice p6 12 c6], .agg #[.int .i64 (q : Int), .int .i64 tG], .bool true]) (by simp [results, Try.results23, asAddr, e9, e10]) rfl ⟨(⟨sp, sc, sq, sd, p6, c6⟩ : Tw), by first | rfl | (rw [hQ.1, hQ.2.1, hQ.2.2]; done), ?_, B10⟩
                rw [HT.out]
                exact ⟨g10, i10, ⟨_, own_rd o10, (hts.below B10).set q (okN.below B10)⟩, HLn.out.1, HLn.out.2, by simp [ht.tl]⟩
              · go_simp
                have hv : Lv (w5.alloc (.cells #[.slice none 0 0, .slice none 0 0, .slice none 0 0] 35)) w5.heap.size #[.slice none 0 0, .slice none 0 0, .slice none 0 0] 35 := Lv.new _ _ _
                have bv : Below w4.heap.size w4 (w5.alloc (.cells #[.slice none 0 0, .slice none 0 0, .slice none 0 0] 35)) := b5.alloc b5.size _
                have lzv := bv.size
                have hge : w4.heap.size ≤ w5.heap.size := b5.size
                generalize hgW : (w5.alloc (.cells #[.slice none 0 0, .slice none 0 0, .slice none 0 0] 35)) = wv at *
                clear hgW
                obtain ⟨gv, hgv⟩ : ∃ gv, gv = w5.heap.size := ⟨_, rfl⟩
                rw [← hgv] at hv hge
                try simp only [← hgv]
                clear hgv
                refine hK.out _ _ bv (fun hHeld => ?_)
                clear hK K
                try simp only [Act.put, List.getElem_toArray, List.getElem_cons_succ, List.getElem_cons_zero, List.setIfInBounds_toArray, List.set_cons_zero, List.set_cons_succ]
                refine wpAnyH_ready (rs := [6]) (by kernel_rfl) (by simp) ?_
                refine AllReadyH.cons (o := _) rfl (fun K hK => ?_) (AllReadyH.nil)
                go_simp
                go_at_call 39; refine (with_own x xs _ (hxs.below (bW4.trans (bv.mono bW4.size))) HXL.out q hq12 (⟨k, (q : Int), tG, C, 0, none, 0, 0, none, 0, 0, 0, none, 0, 0, S⟩ : Tc)).mono ?_
                rintro e w6 ⟨p6, c6, rfl, o6, b6'⟩
                have lz6 := b6'.size
                have b6 := bel_call bv (Nat.le_refl _) b6'
                have hv := hv.below b6'
                refine hK.out _ _ b6 (fun hHeld => ?_)
                clear hK K
                try simp only [Act.put, List.getElem_toArray, List.getElem_cons_succ, List.getElem_cons_zero, List.setIfInBounds_toArray, List.set_cons_zero, List.set_cons_succ]
                refine wpAnyH_ready (rs := [8]) (by kernel_rfl) (by simp) ?_
                refine AllReadyH.cons (o := _) rfl (fun K hK => ?_) (AllReadyH.nil)
                refine step_stV (E := eTb) rfl 35 _ _ rfl size35 gv _ hv rfl (⟨x.gp, x.gc, x.ip, x.ic, p6, c6⟩ : Tw) rfl rfl ?_
                intro w7 L7 k7
                have b7 : Below w4.heap.size w4 w7 := bel_kp b6 k7 hge b6.size
                have ft : Far p6 gv := Far.type o6 hv (by decide)
                have o7 := own_block_eq (w' := w7) o6 (fun b o e => k7.block b (by subst e; exact own_lt o6) (by intro h; have h := Option.some.inj h; exact ft b o e h))
                refine hK.out _ _ b7 (fun hHeld => ?_)
                clear hK K
                try simp only [Act.put, List.getElem_toArray, List.getElem_cons_succ, List.getElem_cons_zero]
                refine wpAnyH_done (by kernel_rfl) ?_ _
                have l7 : w4.heap.size ≤ w7.heap.size := b7.size
                have H7 := H3.below b7
                have S7 := S3.below b7
                have t0 := S7.c 0 rfl
                have t1 := S7.c 1 rfl
                have N7 : Vw w7 gv (⟨x.gp, x.gc, x.ip, x.ic, p6, c6⟩ : Tw) 35 := L7
                have r17 := r1.below b7
                have r27 := r2.below b7
                go_wp2_with (refine wpList_stP rfl 32 (.tmp 70) (.tmp 69) rfl gv 0 _ 35 N7 [.slice sp 12 sc, .slice sq 12 sd] size32p (by simp) (by intro v hv; simp at hv; rcases hv with rfl | rfl <;> rfl) rfl rfl ?_; intro w8 Q8 k8)
                have N8 : Vw w8 gv (⟨sp, sc, sq, sd, p6, c6⟩ : Tw) 35 := Q8
                have f8 : Far p6 gv := Far.type o7 N7 (by decide)
                have o8 := own_block_eq (w' := w8) o7 (fun b o e => k8.block b (by subst e; exact own_lt o7) (by intro h; have h := Option.some.inj h; exact f8 b o e h))
                have H8 := H7.kp k8 (by omega)
                have R8 : Lv w8 (w.heap.size + 1) #[.slice none 0 0, .slice none 0 0, .slice none 0 0] 35 := (R4.below b7).kp k8 (by omega)
                have J8 : Lv w8 (w.heap.size + 1 + 1) #[.int .i64 0, .int .i64 0] 38 := (J4.below b7).kp k8 (by omega)
                have r18 := rd_kpF r17 k8 (fp1.mono2 hge)
                have r28 := rd_kpF r27 k8 (fp2.mono2 hge)
                have qv2 : gv < w8.heap.size := N8.lt
                have qh2 : gh < w8.heap.size := H8.lt
                have lz8 := k8.size
                have B8 : Below w.heap.size w w8 := bel_kp (bW4.trans (b7.mono bW4.size)) k8 (by omega) (bW4.trans (b7.mono bW4.size)).size
                have hw4 := bW4.size
                clear hHeld t0 t1 N7 S7 H7 Q8
                refine wp_region_held_drew (S := fun w' => w'.heap[gv]? = w8.heap[gv]? ∧ w'.heap[gh]? = w8.heap[gh]?) (by kernel_rfl) ⟨rfl, rfl⟩ (fun hHeld => ?_)
                refine wpAnyH_take (i := 0) (oi := _) (v := ?_) rfl (by kernel_rfl) (by kernel_rfl) (by kernel_rfl) (fun _ _ _ h => h) (Or.inl ⟨by rfl, ?_⟩) hHeld ?_
                rotate_left
                · intro w' hSw
                  obtain ⟨e0, e1, e2⟩ := Vw.at (show Vw w' gv (⟨sp, sc, sq, sd, p6, c6⟩ : Tw) 35 from hSw.1.trans N8)
                  have h0 := Lv.c (show Lv w' gh #[.int .i64 (q : Int), .int .i64 tG] 38 from hSw.2.trans H8) 0 rfl
                  have h1 := Lv.c (show Lv w' gh #[.int .i64 (q : Int), .int .i64 tG] 38 from hSw.2.trans H8) 1 rfl
                  (go_simp <;> with_reducible rfl)
                try simp only [Act.put, List.getElem_toArray, List.getElem_cons_zero, List.setIfInBounds_toArray, List.set_cons_zero, List.set_cons_succ]
                refine wpAnyH_take (i := 1) (oi := _) (v := ?_) rfl (by kernel_rfl) (by kernel_rfl) (by kernel_rfl) (fun _ _ _ h => h) (Or.inl ⟨by rfl, ?_⟩) hHeld ?_
                rotate_left
                · intro w' hSw
                  obtain ⟨e0, e1, e2⟩ := Vw.at (show Vw w' gv (⟨sp, sc, sq, sd, p6, c6⟩ : Tw) 35 from hSw.1.trans N8)
                  have h0 := Lv.c (show Lv w' gh #[.int .i64 (q : Int), .int .i64 tG] 38 from hSw.2.trans H8) 0 rfl
                  have h1 := Lv.c (show Lv w' gh #[.int .i64 (q : Int), .int .i64 tG] 38 from hSw.2.trans H8) 1 rfl
                  (go_simp <;> with_reducible rfl)
                try simp only [Act.put, List.getElem_toArray, List.getElem_cons_succ, List.getElem_cons_zero, List.setIfInBounds_toArray, List.set_cons_zero, List.set_cons_succ]
                refine wpAnyH_ready (rs := [2]) (by kernel_rfl) (by simp) ?_
                refine AllReadyH.cons (o := _) rfl (fun K hK => ?_) (AllReadyH.nil)
                refine step_stV (E := eTb) rfl 35 _ _ rfl size35 (w.heap.size + 1) _ (Lv.draw R8) rfl (⟨sp, sc, sq, sd, p6, c6⟩ : Tw) rfl rfl ?_
                intro w9 L9 k9
                have lz9 : w8.heap.size ≤ w9.heap.size := k9.size
                have hS9 : w9.heap[gv]? = w8.heap[gv]? ∧ w9.heap[gh]? = w8.heap[gh]? := ⟨k9.block gv (by show gv < w8.heap.size; omega) (by intro h; have h := Option.some.inj h; omega), k9.block gh (by show gh < w8.heap.size; omega) (by intro h; have h := Option.some.inj h; omega)⟩
                have J9 := Lv.kp (Lv.draw J8) k9 (by omega)
                refine hK.out _ _ hS9 (fun hHeld => ?_)
                clear hK K
                try simp only [Act.put, List.getElem_toArray, List.getElem_cons_succ, List.getElem_cons_zero]
                refine wpAnyH_ready (rs := [3]) (by kernel_rfl) (by simp) ?_
                refine AllReadyH.cons (o := _) rfl (fun K hK => ?_) (AllReadyH.nil)
                refine step_stV (E := eH) rfl 38 _ _ rfl size38 (w.heap.size + 1 + 1) _ J9 rfl ((q : Int), tG) rfl rfl ?_
                intro w10 L10 k10
                have hS10 : w10.heap[gv]? = w8.heap[gv]? ∧ w10.heap[gh]? = w8.heap[gh]? := ⟨(k10.block gv (by omega) (by intro h; have h := Option.some.inj h; omega)).trans hS9.1, (k10.block gh (by omega) (by intro h; have h := Option.some.inj h; omega)).trans hS9.2⟩
                refine hK.out _ _ hS10 (fun hHeld => ?_)
                clear hK K
                try simp only [Act.put, List.getElem_toArray, List.getElem_cons_succ, List.getElem_cons_zero]
                refine wpAnyH_take (i := 4) (oi := _) (v := ?_) rfl (by kernel_rfl) (by kernel_rfl) (by kernel_rfl) (fun _ _ _ h => h) (Or.inl ⟨by rfl, ?_⟩) hHeld ?_
                rotate_left
                · intro w' hSw
                  (go_simp <;> with_reducible rfl)
                try simp only [Act.put, List.getElem_toArray, List.getElem_cons_succ, List.getElem_cons_zero, List.setIfInBounds_toArray, List.set_cons_zero, List.set_cons_succ]
                refine wpAnyH_done (by kernel_rfl) ?_ _
                have e9 := load35 (x := (⟨sp, sc, sq, sd, p6, c6⟩ : Tw)) (Lv.kp L9 k10 (by omega))
                have e10 := load38 L10
                have B9 : Below w.heap.size w w9 := bel_kp B8.drew k9 (by omega) (by have := B8.size; exact this)
                have B10 : Below w.heap.size w w10 := bel_kp B9 k10 (by omega) B9.size
                have o10 := own_kp (own_kp (own_below o8 (Below.refl _ _).drew) k9 (by omega)) k10 (by omega)
                have g10 := rd_kpF (rd_kpF (r18.below (Below.refl _ _).drew) k9 (nn1.far (by omega))) k10 (nn1.far (by omega))
                have i10 := rd_kpF (rd_kpF (r28.below (Below.refl _ _).drew) k9 (nn2.far (by omega))) k10 (nn2.far (by omega))
                go_wp2
                refine bodyPost_ret (v := .tuple #[.agg #[.slice sp 12 sc, .slice sq 12 sd, .slice p6 12 c6], .agg #[.int .i64 (q : Int), .int .i64 tG], .bool true]) (by simp [results, Try.results23, asAddr, e9, e10]) rfl ⟨(⟨sp, sc, sq, sd, p6, c6⟩ : Tw), by first | rfl | (rw [hQ.1, hQ.2.1, hQ.2.2]; done), ?_, B10⟩
                rw [HT.out]
                exact ⟨g10, i10, ⟨_, own_rd o10, (hts.below B10).set q (okN.below B10)⟩, HLn.out.1, HLn.out.2, by simp [ht.tl]⟩
            · go_simp
              have hv : Lv (w4.alloc (.cells #[.slice none 0 0, .slice none 0 0, .slice none 0 0] 35)).drew w4.heap.size #[.slice none 0 0, .slice none 0 0, .slice none 0 0] 35 := Lv.draw (Lv.new _ _ _)
              have bv : Below w4.heap.size w4 (w4.alloc (.cells #[.slice none 0 0, .slice none 0 0, .slice none 0 0] 35)).drew := (bel_self _ _).drew
              have lzv := bv.size
              have hge : w4.heap.size ≤ w4.heap.size := Nat.le_refl _
              generalize hgW : (w4.alloc (.cells #[.slice none 0 0, .slice none 0 0, .slice none 0 0] 35)).drew = wv at *
              clear hgW
              obtain ⟨gv, hgv⟩ : ∃ gv, gv = w4.heap.size := ⟨_, rfl⟩
              rw [← hgv] at hv
              try simp only [← hgv]
              clear hge
              have hge : w4.heap.size ≤ gv := by rw [hgv]; exact Nat.le_refl _
              clear hgv
              refine hK.out _ _ bv (fun hHeld => ?_)
              clear hK K
              try simp only [Act.put, List.getElem_toArray, List.getElem_cons_succ, List.getElem_cons_zero, List.setIfInBounds_toArray, List.set_cons_zero, List.set_cons_succ]
              refine wpAnyH_ready (rs := [5]) (by kernel_rfl) (by simp) ?_
              refine AllReadyH.cons (o := _) rfl (fun K hK => ?_) (AllReadyH.nil)
              go_simp
              go_at_call 48; refine (freshT_c k (q : Int) tG _ S HS.out C HC.out).mono ?_
              rintro e w5 ⟨rfl, b5'⟩
              have b5 := bel_call bv (Nat.le_refl _) b5'
              have lz5 := b5.size
              have hv := hv.below b5'
              refine hK.out _ _ b5 (fun hHeld => ?_)
              clear hK K
              try simp only [Act.put, List.getElem_toArray, List.getElem_cons_succ, List.getElem_cons_zero, List.setIfInBounds_toArray, List.set_cons_zero, List.set_cons_succ]
              refine wpAnyH_ready (rs := [6]) (by kernel_rfl) (by simp) ?_
              refine AllReadyH.cons (o := _) rfl (fun K hK => ?_) (AllReadyH.nil)
              go_simp
              go_at_call 39; refine (with_own x xs _ (hxs.below (bW4.trans (b5.mono bW4.size))) HXL.out q hq12 (⟨k, (q : Int), tG, C, 0, none, 0, 0, none, 0, 0, 0, none, 0, 0, S⟩ : Tc)).mono ?_
              rintro e w6 ⟨p6, c6, rfl, o6, b6'⟩
              have lz6 := b6'.size
              have b6 := bel_call b5 (Nat.le_refl _) b6'
              have hv := hv.below b6'
              refine hK.out _ _ b6 (fun hHeld => ?_)
              clear hK K
              try simp only [Act.put, List.getElem_toArray, List.getElem_cons_succ, List.getElem_cons_zero, List.setIfInBounds_toArray, List.set_cons_zero, List.set_cons_succ]
              refine wpAnyH_ready (rs := [8]) (by kernel_rfl) (by simp) ?_
              refine AllReadyH.cons (o := _) rfl (fun K hK => ?_) (AllReadyH.nil)
              refine step_stV (E := eTb) rfl 35 _ _ rfl size35 gv _ hv rfl (⟨x.gp, x.gc, x.ip, x.ic, p6, c6⟩ : Tw) rfl rfl ?_
              intro w7 L7 k7
              have b7 : Below w4.heap.size w4 w7 := bel_kp b6 k7 hge b6.size
              have ft : Far p6 gv := Far.type o6 hv (by decide)
              have o7 := own_block_eq (w' := w7) o6 (fun b o e => k7.block b (by subst e; exact own_lt o6) (by intro h; have h := Option.some.inj h; exact ft b o e h))
              refine hK.out _ _ b7 (fun hHeld => ?_)
              clear hK K
              try simp only [Act.put, List.getElem_toArray, List.getElem_cons_succ, List.getElem_cons_zero]
              refine wpAnyH_done (by kernel_rfl) ?_ _
              have l7 : w4.heap.size ≤ w7.heap.size := b7.size
              have H7 := H3.below b7
              have S7 := S3.below b7
              have t0 := S7.c 0 rfl
              have t1 := S7.c 1 rfl
              have N7 : Vw w7 gv (⟨x.gp, x.gc, x.ip, x.ic, p6, c6⟩ : Tw) 35 := L7
              have r17 := r1.below b7
              have r27 := r2.below b7
              go_wp2_with (refine wpList_stP rfl 32 (.tmp 70) (.tmp 69) rfl gv 0 _ 35 N7 [.slice sp 12 sc, .slice sq 12 sd] size32p (by simp) (by intro v hv; simp at hv; rcases hv with rfl | rfl <;> rfl) rfl rfl ?_; intro w8 Q8 k8)
              have N8 : Vw w8 gv (⟨sp, sc, sq, sd, p6, c6⟩ : Tw) 35 := Q8
              have f8 : Far p6 gv := Far.type o7 N7 (by decide)
              have o8 := own_block_eq (w' := w8) o7 (fun b o e => k8.block b (by subst e; exact own_lt o7) (by intro h; have h := Option.some.inj h; exact f8 b o e h))
              have H8 := H7.kp k8 (by omega)
              have R8 : Lv w8 (w.heap.size + 1) #[.slice none 0 0, .slice none 0 0, .slice none 0 0] 35 := (R4.below b7).kp k8 (by omega)
              have J8 : Lv w8 (w.heap.size + 1 + 1) #[.int .i64 0, .int .i64 0] 38 := (J4.below b7).kp k8 (by omega)
              have r18 := rd_kpF r17 k8 (fp1.mono2 hge)
              have r28 := rd_kpF r27 k8 (fp2.mono2 hge)
              have qv2 : gv < w8.heap.size := N8.lt
              have qh2 : gh < w8.heap.size := H8.lt
              have lz8 := k8.size
              have B8 : Below w.heap.size w w8 := bel_kp (bW4.trans (b7.mono bW4.size)) k8 (by omega) (bW4.trans (b7.mono bW4.size)).size
              have hw4 := bW4.size
              clear hHeld t0 t1 N7 S7 H7 Q8
              refine wp_region_held_drew (S := fun w' => w'.heap[gv]? = w8.heap[gv]? ∧ w'.heap[gh]? = w8.heap[gh]?) (by kernel_rfl) ⟨rfl, rfl⟩ (fun hHeld => ?_)
              refine wpAnyH_take (i := 0) (oi := _) (v := ?_) rfl (by kernel_rfl) (by kernel_rfl) (by kernel_rfl) (fun _ _ _ h => h) (Or.inl ⟨by rfl, ?_⟩) hHeld ?_
              rotate_left
              · intro w' hSw
                obtain ⟨e0, e1, e2⟩ := Vw.at (show Vw w' gv (⟨sp, sc, sq, sd, p6, c6⟩ : Tw) 35 from hSw.1.trans N8)
                have h0 := Lv.c (show Lv w' gh #[.int .i64 (q : Int), .int .i64 tG] 38 from hSw.2.trans H8) 0 rfl
                have h1 := Lv.c (show Lv w' gh #[.int .i64 (q : Int), .int .i64 tG] 38 from hSw.2.trans H8) 1 rfl
                (go_simp <;> with_reducible rfl)
              try simp only [Act.put, List.getElem_toArray, List.getElem_cons_zero, List.setIfInBounds_toArray, List.set_cons_zero, List.set_cons_succ]
              refine wpAnyH_take (i := 1) (oi := _) (v := ?_) rfl (by kernel_rfl) (by kernel_rfl) (by kernel_rfl) (fun _ _ _ h => h) (Or.inl ⟨by rfl, ?_⟩) hHeld ?_
              rotate_left
              · intro w' hSw
                obtain ⟨e0, e1, e2⟩ := Vw.at (show Vw w' gv (⟨sp, sc, sq, sd, p6, c6⟩ : Tw) 35 from hSw.1.trans N8)
                have h0 := Lv.c (show Lv w' gh #[.int .i64 (q : Int), .int .i64 tG] 38 from hSw.2.trans H8) 0 rfl
                have h1 := Lv.c (show Lv w' gh #[.int .i64 (q : Int), .int .i64 tG] 38 from hSw.2.trans H8) 1 rfl
                (go_simp <;> with_reducible rfl)
              try simp only [Act.put, List.getElem_toArray, List.getElem_cons_succ, List.getElem_cons_zero, List.setIfInBounds_toArray, List.set_cons_zero, List.set_cons_succ]
              refine wpAnyH_ready (rs := [2]) (by kernel_rfl) (by simp) ?_
              refine AllReadyH.cons (o := _) rfl (fun K hK => ?_) (AllReadyH.nil)
              refine step_stV (E := eTb) rfl 35 _ _ rfl size35 (w.heap.size + 1) _ (Lv.draw R8) rfl (⟨sp, sc, sq, sd, p6, c6⟩ : Tw) rfl rfl ?_
              intro w9 L9 k9
              have lz9 : w8.heap.size ≤ w9.heap.size := k9.size
              have hS9 : w9.heap[gv]? = w8.heap[gv]? ∧ w9.heap[gh]? = w8.heap[gh]? := ⟨k9.block gv (by show gv < w8.heap.size; omega) (by intro h; have h := Option.some.inj h; omega), k9.block gh (by show gh < w8.heap.size; omega) (by intro h; have h := Option.some.inj h; omega)⟩
              have J9 := Lv.kp (Lv.draw J8) k9 (by omega)
              refine hK.out _ _ hS9 (fun hHeld => ?_)
              clear hK K
              try simp only [Act.put, List.getElem_toArray, List.getElem_cons_succ, List.getElem_cons_zero]
              refine wpAnyH_ready (rs := [3]) (by kernel_rfl) (by simp) ?_
              refine AllReadyH.cons (o := _) rfl (fun K hK => ?_) (AllReadyH.nil)
              refine step_stV (E := eH) rfl 38 _ _ rfl size38 (w.heap.size + 1 + 1) _ J9 rfl ((q : Int), tG) rfl rfl ?_
              intro w10 L10 k10
              have hS10 : w10.heap[gv]? = w8.heap[gv]? ∧ w10.heap[gh]? = w8.heap[gh]? := ⟨(k10.block gv (by omega) (by intro h; have h := Option.some.inj h; omega)).trans hS9.1, (k10.block gh (by omega) (by intro h; have h := Option.some.inj h; omega)).trans hS9.2⟩
              refine hK.out _ _ hS10 (fun hHeld => ?_)
              clear hK K
              try simp only [Act.put, List.getElem_toArray, List.getElem_cons_succ, List.getElem_cons_zero]
              refine wpAnyH_take (i := 4) (oi := _) (v := ?_) rfl (by kernel_rfl) (by kernel_rfl) (by kernel_rfl) (fun _ _ _ h => h) (Or.inl ⟨by rfl, ?_⟩) hHeld ?_
              rotate_left
              · intro w' hSw
                (go_simp <;> with_reducible rfl)
              try simp only [Act.put, List.getElem_toArray, List.getElem_cons_succ, List.getElem_cons_zero, List.setIfInBounds_toArray, List.set_cons_zero, List.set_cons_succ]
              refine wpAnyH_done (by kernel_rfl) ?_ _
              have e9 := load35 (x := (⟨sp, sc, sq, sd, p6, c6⟩ : Tw)) (Lv.kp L9 k10 (by omega))
              have e10 := load38 L10
              have B9 : Below w.heap.size w w9 := bel_kp B8.drew k9 (by omega) (by have := B8.size; exact this)
              have B10 : Below w.heap.size w w10 := bel_kp B9 k10 (by omega) B9.size
              have o10 := own_kp (own_kp (own_below o8 (Below.refl _ _).drew) k9 (by omega)) k10 (by omega)
              have g10 := rd_kpF (rd_kpF (r18.below (Below.refl _ _).drew) k9 (nn1.far (by omega))) k10 (nn1.far (by omega))
              have i10 := rd_kpF (rd_kpF (r28.below (Below.refl _ _).drew) k9 (nn2.far (by omega))) k10 (nn2.far (by omega))
              go_wp2
              refine bodyPost_ret (v := .tuple #[.agg #[.slice sp 12 sc, .slice sq 12 sd, .slice p6 12 c6], .agg #[.int .i64 (q : Int), .int .i64 tG], .bool true]) (by simp [results, Try.results23, asAddr, e9, e10]) rfl ⟨(⟨sp, sc, sq, sd, p6, c6⟩ : Tw), by first | rfl | (rw [hQ.1, hQ.2.1, hQ.2.2]; done), ?_, B10⟩
              rw [HT.out]
              exact ⟨g10, i10, ⟨_, own_rd o10, (hts.below B10).set q (okN.below B10)⟩, HLn.out.1, HLn.out.2, by simp [ht.tl]⟩
      · subst hmo
        have y1 : (k == 1) = false := by rw [h1]; rfl
        have z1 : decide (k = 1) = false := by rw [h1]; rfl
        have y2 : (k == 2) = true := by simpa using h1
        have z2 : decide (k = 2) = true := by simpa using h1
        by_cases hlm : 4 ≤ l
        · have d1 : decide ((4 : Int) ≤ (l : Int)) = true := by simp; omega
          have hQ : B = false ∧ A = 0 ∧ G = 0 := by
            have hf : mkOk T k = false := by unfold mkOk; rw [HM.out, HMO.out]; simp; omega
            refine ⟨by rw [← HBB.out.1, hf], by rw [← HBB.out.2.1]; unfold mkA; rw [hf]; rfl, by rw [← HBB.out.2.2]; unfold mkG; rw [hf]; rfl⟩
          have HT : Hid (mkR T k = T) := by
            have hf : mkOk T k = false := by unfold mkOk; rw [HM.out, HMO.out]; simp; omega
            show _ = _; unfold mkR; rw [hf]; rfl
          clear h1
          go_wp2_with (first
            | (go_at_call 52; refine (rtake_t x T N _ hT hw hN tA tG fr HF.out.2.1 HF.out.2.2 HF.out.1).mono ?_; rintro e w2 ⟨sp, sc, sq, sd, rfl, r1, r2, nn1, nn2, b2⟩; have s2 : Below w2.heap.size w2 ((w2.alloc (.cells #[.slice sp 12 sc, .slice sq 12 sd] 32)).alloc (.cells #[.int .i64 tA, .int .i64 tG] 38)) := ((Below.refl _ _).alloc (Nat.le_refl _) _).alloc (by simp) _; have a3 := bel_call b2 (Nat.le_refl _) s2; have S3 : Lv ((w2.alloc (.cells #[.slice sp 12 sc, .slice sq 12 sd] 32)).alloc (.cells #[.int .i64 tA, .int .i64 tG] 38)) w2.heap.size #[.slice sp 12 sc, .slice sq 12 sd] 32 := Lv.below (Lv.new _ _ _) (bel_self _ _); have H3 : Lv ((w2.alloc (.cells #[.slice sp 12 sc, .slice sq 12 sd] 32)).alloc (.cells #[.int .i64 tA, .int .i64 tG] 38)) (w2.heap.size + 1) #[.int .i64 tA, .int .i64 tG] 38 := heap_at (by simp); have R3 := hR.below a3; have J3 := hH.below a3; clear c0 c1 c2; obtain ⟨c0, c1, c2⟩ := (hV.below a3).at)
            | (refine wpList_stV (E := eTb) rfl 35 (.tmp 4) (.tmp 60) rfl size35 (w.heap.size + 1) _ R3 rfl x rfl rfl ?_; intro w9 L9 k9; have H9 := J3.kp k9 (by omega); have h90 := H9.c 0 rfl; have h91 := H9.c 1 rfl; have z90 := H9.fz 0; have z91 := H9.fz 1))
          have e9 := load35 L9
          have B9 : Below w.heap.size w w9 := bel_kp (bel_call bW (Nat.le_refl _) a3) k9 (by omega) (bel_call bW (Nat.le_refl _) a3).size
          have L10 : Lv ((w9.setCell ⟨w.heap.size + 1 + 1, 0, none⟩ (.int .i64 0)).setCell ⟨w.heap.size + 1 + 1, 1, none⟩ (.int .i64 0)) (w.heap.size + 1) _ 35 := (L9.far (a := ⟨w.heap.size + 1 + 1, 0, none⟩) (by simp) _).far (a := ⟨w.heap.size + 1 + 1, 1, none⟩) (by simp) _
          have e10 := load35 (x := x) L10
          have H10 := (H9.set 0 (.int .i64 0)).set 1 (.int .i64 0)
          have e11 := load38 (a := 0) (b := 0) H10
          have B10 := Below.setCell (Below.setCell B9 (p := ⟨w.heap.size + 1 + 1, 0, none⟩) (by show w.heap.size ≤ w.heap.size + 1 + 1; omega) (.int .i64 0)) (p := ⟨w.heap.size + 1 + 1, 1, none⟩) (by show w.heap.size ≤ w.heap.size + 1 + 1; omega) (.int .i64 0)
          refine bodyPost_ret (v := .tuple #[.agg #[.slice x.gp 12 x.gc, .slice x.ip 12 x.ic, .slice x.tp 12 x.tc], .agg #[.int .i64 0, .int .i64 0], .bool false]) (by simp [results, Try.results23, asAddr, e10, e11]) rfl ⟨x, by first | rfl | (rw [hQ.1, hQ.2.1, hQ.2.2]; done), ?_, B10⟩
          rw [HT.out]
          exact ht.below B10
        · have d1 : decide ((4 : Int) ≤ (l : Int)) = false := by simp; omega
          cases fr with
          | false =>
            have hQ : B = false ∧ A = 0 ∧ G = 0 := by
              have hf : mkOk T k = false := by unfold mkOk; rw [HF.out.1]; rfl
              refine ⟨by rw [← HBB.out.1, hf], by rw [← HBB.out.2.1]; unfold mkA; rw [hf]; rfl, by rw [← HBB.out.2.2]; unfold mkG; rw [hf]; rfl⟩
            have HT : Hid (mkR T k = T) := by
              have hf : mkOk T k = false := by unfold mkOk; rw [HF.out.1]; rfl
              show _ = _; unfold mkR; rw [hf]; rfl
            clear h1
            go_wp2_with (first
              | (go_at_call 52; refine (rtake_t x T N _ hT hw hN tA tG false HF.out.2.1 HF.out.2.2 HF.out.1).mono ?_; rintro e w2 ⟨sp, sc, sq, sd, rfl, r1, r2, nn1, nn2, b2⟩; have s2 : Below w2.heap.size w2 ((w2.alloc (.cells #[.slice sp 12 sc, .slice sq 12 sd] 32)).alloc (.cells #[.int .i64 tA, .int .i64 tG] 38)) := ((Below.refl _ _).alloc (Nat.le_refl _) _).alloc (by simp) _; have a3 := bel_call b2 (Nat.le_refl _) s2; have S3 : Lv ((w2.alloc (.cells #[.slice sp 12 sc, .slice sq 12 sd] 32)).alloc (.cells #[.int .i64 tA, .int .i64 tG] 38)) w2.heap.size #[.slice sp 12 sc, .slice sq 12 sd] 32 := Lv.below (Lv.new _ _ _) (bel_self _ _); have H3 : Lv ((w2.alloc (.cells #[.slice sp 12 sc, .slice sq 12 sd] 32)).alloc (.cells #[.int .i64 tA, .int .i64 tG] 38)) (w2.heap.size + 1) #[.int .i64 tA, .int .i64 tG] 38 := heap_at (by simp); have R3 := hR.below a3; have J3 := hH.below a3; clear c0 c1 c2; obtain ⟨c0, c1, c2⟩ := (hV.below a3).at)
              | (refine wpList_stV (E := eTb) rfl 35 (.tmp 4) (.tmp 60) rfl size35 (w.heap.size + 1) _ R3 rfl x rfl rfl ?_; intro w9 L9 k9; have H9 := J3.kp k9 (by omega); have h90 := H9.c 0 rfl; have h91 := H9.c 1 rfl; have z90 := H9.fz 0; have z91 := H9.fz 1))
            have e9 := load35 L9
            have B9 : Below w.heap.size w w9 := bel_kp (bel_call bW (Nat.le_refl _) a3) k9 (by omega) (bel_call bW (Nat.le_refl _) a3).size
            have L10 : Lv ((w9.setCell ⟨w.heap.size + 1 + 1, 0, none⟩ (.int .i64 0)).setCell ⟨w.heap.size + 1 + 1, 1, none⟩ (.int .i64 0)) (w.heap.size + 1) _ 35 := (L9.far (a := ⟨w.heap.size + 1 + 1, 0, none⟩) (by simp) _).far (a := ⟨w.heap.size + 1 + 1, 1, none⟩) (by simp) _
            have e10 := load35 (x := x) L10
            have H10 := (H9.set 0 (.int .i64 0)).set 1 (.int .i64 0)
            have e11 := load38 (a := 0) (b := 0) H10
            have B10 := Below.setCell (Below.setCell B9 (p := ⟨w.heap.size + 1 + 1, 0, none⟩) (by show w.heap.size ≤ w.heap.size + 1 + 1; omega) (.int .i64 0)) (p := ⟨w.heap.size + 1 + 1, 1, none⟩) (by show w.heap.size ≤ w.heap.size + 1 + 1; omega) (.int .i64 0)
            refine bodyPost_ret (v := .tuple #[.agg #[.slice x.gp 12 x.gc, .slice x.ip 12 x.ic, .slice x.tp 12 x.tc], .agg #[.int .i64 0, .int .i64 0], .bool false]) (by simp [results, Try.results23, asAddr, e10, e11]) rfl ⟨x, by first | rfl | (rw [hQ.1, hQ.2.1, hQ.2.2]; done), ?_, B10⟩
            rw [HT.out]
            exact ht.below B10
          | true =>
            clear h1
            have hlt : l < 4 := by omega
            have hfT : mkOk T k = true := by unfold mkOk; rw [HM.out, HMO.out, HF.out.1]; simpa using hlt
            obtain ⟨q, hq⟩ := Option.isSome_iff_exists.1 (show (Slo.freeIn T.G T.I).isSome = true from HF.out.1)
            obtain ⟨hq12, _⟩ := free_of hw hq
            have hqA : tA = (q : Int) := by rw [← HF.out.2.1]; unfold Slo.tAt; rw [hq]
            subst hqA
            have hQ : B = true ∧ A = (q : Int) ∧ G = tG := ⟨by rw [← HBB.out.1, hfT], by rw [← HBB.out.2.1]; unfold mkA; rw [hfT]; exact HF.out.2.1, by rw [← HBB.out.2.2]; unfold mkG; rw [hfT]; exact HF.out.2.2⟩
            have HT : Hid (mkR T k = ⟨Slo.tg T.G T.I, Slo.tb T.G T.I, T.T.set q (freshT k (q : Int) tG 8)⟩) := by show _ = _; unfold mkR mkT; rw [hfT, HF.out.2.1, HF.out.2.2]; rfl
            obtain ⟨S, hS⟩ : ∃ S, (freshT k (q : Int) tG 8).s = S := ⟨_, rfl⟩
            have HS : Hid ((freshT k (q : Int) tG 8).s = S) := hS
            have hqI : (q : Int) < 12 := by omega
            obtain ⟨C, hC⟩ : ∃ C, (if k = 1 then (8 : Int) else 0) = C := ⟨_, rfl⟩
            have HC : Hid ((if k = 1 then (8 : Int) else 0) = C) := hC
            clear hC
            have hqZ : (0 : Int) ≤ (q : Int) := by omega
            have dq : decide ((12 : Int) ≤ (q : Int)) = false := by simp; omega
            have HLn : Hid ((Slo.tg T.G T.I).length = 12 ∧ (Slo.tb T.G T.I).length = 12) := ⟨by rw [Slo.tg_len]; exact ht.gl, by rw [Slo.tb_len]; exact ht.il⟩
            have okN : Ok w (⟨k, (q : Int), tG, C, 0, none, 0, 0, none, 0, 0, 0, none, 0, 0, S⟩ : Tc) (freshT k (q : Int) tG 8) := Ok.freshC w k (q : Int) tG 8 S HS.out C HC.out
            obtain ⟨xs, hxs, hts⟩ := ht.R
            have HXL : Hid (xs.length = 12) := by show _ = _; rw [hts.1, ht.tl]
            clear hS hq hfT
            go_wp2_with (first
              | (go_at_call 52; refine (rtake_t x T N _ hT hw hN (q : Int) tG true HF.out.2.1 HF.out.2.2 HF.out.1).mono ?_; rintro e w2 ⟨sp, sc, sq, sd, rfl, r1, r2, nn1, nn2, b2⟩; have s2 : Below w2.heap.size w2 ((w2.alloc (.cells #[.slice sp 12 sc, .slice sq 12 sd] 32)).alloc (.cells #[.int .i64 (q : Int), .int .i64 tG] 38)) := ((Below.refl _ _).alloc (Nat.le_refl _) _).alloc (by simp) _; have a3 := bel_call b2 (Nat.le_refl _) s2; have S3 : Lv ((w2.alloc (.cells #[.slice sp 12 sc, .slice sq 12 sd] 32)).alloc (.cells #[.int .i64 (q : Int), .int .i64 tG] 38)) w2.heap.size #[.slice sp 12 sc, .slice sq 12 sd] 32 := Lv.below (Lv.new _ _ _) (bel_self _ _); have H3 : Lv ((w2.alloc (.cells #[.slice sp 12 sc, .slice sq 12 sd] 32)).alloc (.cells #[.int .i64 (q : Int), .int .i64 tG] 38)) (w2.heap.size + 1) #[.int .i64 (q : Int), .int .i64 tG] 38 := heap_at (by simp); have R3 := hR.below a3; have J3 := hH.below a3; clear c0 c1 c2; obtain ⟨c0, c1, c2⟩ := (hV.below a3).at; have h0 := H3.c 0 rfl; have h1q := H3.c 1 rfl))
            have hgh : w2.heap.size + 1 < ((w2.alloc (.cells #[.slice sp 12 sc, .slice sq 12 sd] 32)).alloc (.cells #[.int .i64 (q : Int), .int .i64 tG] 38)).heap.size := H3.lt
            have l2 := b2.size
            have fp1 : Nlt sp w2.heap.size := r1.nlt (by rw [HLn.out.1]; decide)
            have fp2 : Nlt sq w2.heap.size := r2.nlt (by rw [HLn.out.2]; decide)
            have r1 := r1.below s2
            have r2 := r2.below s2
            have V3 := hV.below a3
            have bW4 := bel_call bW (Nat.le_refl _) a3
            have ls2 := s2.size
            have fp1 := fp1.mono1 ls2
            have fp2 := fp2.mono1 ls2
            clear c0 c1 c2 h0 h1q
            generalize ((w2.alloc (.cells #[.slice sp 12 sc, .slice sq 12 sd] 32)).alloc (.cells #[.int .i64 (q : Int), .int .i64 tG] 38)) = w4 at *
            obtain ⟨gh, hghE⟩ : ∃ gh, gh = w2.heap.size + 1 := ⟨_, rfl⟩
            have qh1 : w.heap.size + 3 ≤ gh := by omega
            rw [← hghE] at H3 hgh
            have qh4 : gh < w4.heap.size := hgh
            try simp only [← hghE]
            clear hghE hgh
            have R4 := R3
            have J4 := J3
            clear R3 J3
            refine wp_region_held_drew (S := fun w' => Below w4.heap.size w4 w') (by kernel_rfl) (Below.refl _ _).drew (fun hHeld => ?_)
            refine wpAnyH_take (i := 0) (oi := _) (v := ?_) rfl (by kernel_rfl) (by kernel_rfl) (by kernel_rfl) (fun _ _ _ h => h) (Or.inl ⟨by rfl, ?_⟩) hHeld ?_
            rotate_left
            · intro w' hSw
              obtain ⟨c0, c1, c2⟩ := (V3.below hSw).at
              have h0 := (H3.below hSw).c 0 rfl
              have h1 := (H3.below hSw).c 1 rfl
              (go_simp <;> with_reducible rfl)
            try simp only [Act.put, List.getElem_toArray, List.getElem_cons_zero, List.setIfInBounds_toArray, List.set_cons_zero, List.set_cons_succ]
            refine wpAnyH_take (i := 1) (oi := _) (v := ?_) rfl (by kernel_rfl) (by kernel_rfl) (by kernel_rfl) (fun _ _ _ h => h) (Or.inl ⟨by rfl, ?_⟩) hHeld ?_
            rotate_left
            · intro w' hSw
              (go_simp <;> with_reducible rfl)
            try simp only [Act.put, List.getElem_toArray, List.getElem_cons_succ, List.getElem_cons_zero, List.setIfInBounds_toArray, List.set_cons_zero, List.set_cons_succ]
            refine wpAnyH_take (i := 2) (oi := _) (v := ?_) rfl (by kernel_rfl) (by kernel_rfl) (by kernel_rfl) (fun _ _ _ h => h) (Or.inl ⟨by rfl, ?_⟩) hHeld ?_
            rotate_left
            · intro w' hSw
              obtain ⟨c0, c1, c2⟩ := (V3.below hSw).at
              have h0 := (H3.below hSw).c 0 rfl
              have h1 := (H3.below hSw).c 1 rfl
              (go_simp <;> with_reducible rfl)
            try simp only [Act.put, List.getElem_toArray, List.getElem_cons_succ, List.getElem_cons_zero, List.setIfInBounds_toArray, List.set_cons_zero, List.set_cons_succ]
            refine wpAnyH_take (i := 3) (oi := _) (v := ?_) rfl (by kernel_rfl) (by kernel_rfl) (by kernel_rfl) (fun _ _ _ h => h) (Or.inl ⟨by rfl, ?_⟩) hHeld ?_
            rotate_left
            · intro w' hSw
              (go_simp <;> with_reducible rfl)
            try simp only [Act.put, List.getElem_toArray, List.getElem_cons_succ, List.getElem_cons_zero, List.setIfInBounds_toArray, List.set_cons_zero, List.set_cons_succ]
            refine wpAnyH_take (i := 4) (oi := _) (v := ?_) rfl (by kernel_rfl) (by kernel_rfl) (by kernel_rfl) (fun _ _ _ h => h) (Or.inl ⟨by rfl, ?_⟩) hHeld ?_
            rotate_left
            · intro w' hSw
              obtain ⟨c0, c1, c2⟩ := (V3.below hSw).at
              have h0 := (H3.below hSw).c 0 rfl
              have h1 := (H3.below hSw).c 1 rfl
              (go_simp <;> with_reducible rfl)
            try simp only [Act.put, List.getElem_toArray, List.getElem_cons_succ, List.getElem_cons_zero, List.setIfInBounds_toArray, List.set_cons_zero, List.set_cons_succ]
            refine wpAnyH_ready (rs := [5, 7]) (by kernel_rfl) (by simp) ?_
            refine AllReadyH.cons (o := _) rfl (fun K hK => ?_) (AllReadyH.cons (o := _) rfl (fun K hK => ?_) (AllReadyH.nil))
            · go_simp
              go_at_call 48; refine (freshT_c k (q : Int) tG _ S HS.out C HC.out).mono ?_
              rintro e w5 ⟨rfl, b5'⟩
              have b5 := bel_call (Below.refl w4.heap.size w4).drew (Nat.le_refl _) b5'
              have lz5 := b5.size
              refine hK.out _ _ b5 (fun hHeld => ?_)
              clear hK K
              try simp only [Act.put, List.getElem_toArray, List.getElem_cons_succ, List.getElem_cons_zero, List.setIfInBounds_toArray, List.set_cons_zero, List.set_cons_succ]
              refine wpAnyH_ready (rs := [6, 7]) (by kernel_rfl) (by simp) ?_
              refine AllReadyH.cons (o := _) rfl (fun K hK => ?_) (AllReadyH.cons (o := _) rfl (fun K hK => ?_) (AllReadyH.nil))
              · go_simp
                go_at_call 39; refine (with_own x xs _ (hxs.below (bW4.trans (b5.mono bW4.size))) HXL.out q hq12 (⟨k, (q : Int), tG, C, 0, none, 0, 0, none, 0, 0, 0, none, 0, 0, S⟩ : Tc)).mono ?_
                rintro e w6 ⟨p6, c6, rfl, o6, b6'⟩
                have lz6 := b6'.size
                have b6 := bel_call b5 (Nat.le_refl _) b6'
                refine hK.out _ _ b6 (fun hHeld => ?_)
                clear hK K
                try simp only [Act.put, List.getElem_toArray, List.getElem_cons_succ, List.getElem_cons_zero, List.setIfInBounds_toArray, List.set_cons_zero, List.set_cons_succ]
                refine wpAnyH_ready (rs := [7]) (by kernel_rfl) (by simp) ?_
                refine AllReadyH.cons (o := _) rfl (fun K hK => ?_) (AllReadyH.nil)
                go_simp
                have hv : Lv (w6.alloc (.cells #[.slice none 0 0, .slice none 0 0, .slice none 0 0] 35)) w6.heap.size #[.slice none 0 0, .slice none 0 0, .slice none 0 0] 35 := Lv.new _ _ _
                have bv : Below w4.heap.size w4 (w6.alloc (.cells #[.slice none 0 0, .slice none 0 0, .slice none 0 0] 35)) := b6.alloc b6.size _
                have o6 := own_below o6 (bel_self w6 (.cells #[.slice none 0 0, .slice none 0 0, .slice none 0 0] 35))
                have lzv := bv.size
                have hge : w4.heap.size ≤ w6.heap.size := b6.size
                generalize hgW : (w6.alloc (.cells #[.slice none 0 0, .slice none 0 0, .slice none 0 0] 35)) = wv at *
                clear hgW
                obtain ⟨gv, hgv⟩ : ∃ gv, gv = w6.heap.size := ⟨_, rfl⟩
                rw [← hgv] at hv hge
                try simp only [← hgv]
                clear hgv
                refine hK.out _ _ bv (fun hHeld => ?_)
                clear hK K
                try simp only [Act.put, List.getElem_toArray, List.getElem_cons_succ, List.getElem_cons_zero, List.setIfInBounds_toArray, List.set_cons_zero, List.set_cons_succ]
                refine wpAnyH_ready (rs := [8]) (by kernel_rfl) (by simp) ?_
                refine AllReadyH.cons (o := _) rfl (fun K hK => ?_) (AllReadyH.nil)
                refine step_stV (E := eTb) rfl 35 _ _ rfl size35 gv _ hv rfl (⟨x.gp, x.gc, x.ip, x.ic, p6, c6⟩ : Tw) rfl rfl ?_
                intro w7 L7 k7
                have b7 : Below w4.heap.size w4 w7 := bel_kp bv k7 hge bv.size
                have ft : Far p6 gv := Far.type o6 hv (by decide)
                have o7 := own_block_eq (w' := w7) o6 (fun b o e => k7.block b (by subst e; exact own_lt o6) (by intro h; have h := Option.some.inj h; exact ft b o e h))
                refine hK.out _ _ b7 (fun hHeld => ?_)
                clear hK K
                try simp only [Act.put, List.getElem_toArray, List.getElem_cons_succ, List.getElem_cons_zero]
                refine wpAnyH_done (by kernel_rfl) ?_ _
                have l7 : w4.heap.size ≤ w7.heap.size := b7.size
                have H7 := H3.below b7
                have S7 := S3.below b7
                have t0 := S7.c 0 rfl
                have t1 := S7.c 1 rfl
                have N7 : Vw w7 gv (⟨x.gp, x.gc, x.ip, x.ic, p6, c6⟩ : Tw) 35 := L7
                have r17 := r1.below b7
                have r27 := r2.below b7
                go_wp2_with (refine wpList_stP rfl 32 (.tmp 70) (.tmp 69) rfl gv 0 _ 35 N7 [.slice sp 12 sc, .slice sq 12 sd] size32p (by simp) (by intro v hv; simp at hv; rcases hv with rfl | rfl <;> rfl) rfl rfl ?_; intro w8 Q8 k8)
                have N8 : Vw w8 gv (⟨sp, sc, sq, sd, p6, c6⟩ : Tw) 35 := Q8
                have f8 : Far p6 gv := Far.type o7 N7 (by decide)
                have o8 := own_block_eq (w' := w8) o7 (fun b o e => k8.block b (by subst e; exact own_lt o7) (by intro h; have h := Option.some.inj h; exact f8 b o e h))
                have H8 := H7.kp k8 (by omega)
                have R8 : Lv w8 (w.heap.size + 1) #[.slice none 0 0, .slice none 0 0, .slice none 0 0] 35 := (R4.below b7).kp k8 (by omega)
                have J8 : Lv w8 (w.heap.size + 1 + 1) #[.int .i64 0, .int .i64 0] 38 := (J4.below b7).kp k8 (by omega)
                have r18 := rd_kpF r17 k8 (fp1.mono2 hge)
                have r28 := rd_kpF r27 k8 (fp2.mono2 hge)
                have qv2 : gv < w8.heap.size := N8.lt
                have qh2 : gh < w8.heap.size := H8.lt
                have lz8 := k8.size
                have B8 : Below w.heap.size w w8 := bel_kp (bW4.trans (b7.mono bW4.size)) k8 (by omega) (bW4.trans (b7.mono bW4.size)).size
                have hw4 := bW4.size
                clear hHeld t0 t1 N7 S7 H7 Q8
                refine wp_region_held_drew (S := fun w' => w'.heap[gv]? = w8.heap[gv]? ∧ w'.heap[gh]? = w8.heap[gh]?) (by kernel_rfl) ⟨rfl, rfl⟩ (fun hHeld => ?_)
                refine wpAnyH_take (i := 0) (oi := _) (v := ?_) rfl (by kernel_rfl) (by kernel_rfl) (by kernel_rfl) (fun _ _ _ h => h) (Or.inl ⟨by rfl, ?_⟩) hHeld ?_
                rotate_left
                · intro w' hSw
                  obtain ⟨e0, e1, e2⟩ := Vw.at (show Vw w' gv (⟨sp, sc, sq, sd, p6, c6⟩ : Tw) 35 from hSw.1.trans N8)
                  have h0 := Lv.c (show Lv w' gh #[.int .i64 (q : Int), .int .i64 tG] 38 from hSw.2.trans H8) 0 rfl
                  have h1 := Lv.c (show Lv w' gh #[.int .i64 (q : Int), .int .i64 tG] 38 from hSw.2.trans H8) 1 rfl
                  (go_simp <;> with_reducible rfl)
                try simp only [Act.put, List.getElem_toArray, List.getElem_cons_zero, List.setIfInBounds_toArray, List.set_cons_zero, List.set_cons_succ]
                refine wpAnyH_take (i := 1) (oi := _) (v := ?_) rfl (by kernel_rfl) (by kernel_rfl) (by kernel_rfl) (fun _ _ _ h => h) (Or.inl ⟨by rfl, ?_⟩) hHeld ?_
                rotate_left
                · intro w' hSw
                  obtain ⟨e0, e1, e2⟩ := Vw.at (show Vw w' gv (⟨sp, sc, sq, sd, p6, c6⟩ : Tw) 35 from hSw.1.trans N8)
                  have h0 := Lv.c (show Lv w' gh #[.int .i64 (q : Int), .int .i64 tG] 38 from hSw.2.trans H8) 0 rfl
                  have h1 := Lv.c (show Lv w' gh #[.int .i64 (q : Int), .int .i64 tG] 38 from hSw.2.trans H8) 1 rfl
                  (go_simp <;> with_reducible rfl)
                try simp only [Act.put, List.getElem_toArray, List.getElem_cons_succ, List.getElem_cons_zero, List.setIfInBounds_toArray, List.set_cons_zero, List.set_cons_succ]
                refine wpAnyH_ready (rs := [2]) (by kernel_rfl) (by simp) ?_
                refine AllReadyH.cons (o := _) rfl (fun K hK => ?_) (AllReadyH.nil)
                refine step_stV (E := eTb) rfl 35 _ _ rfl size35 (w.heap.size + 1) _ (Lv.draw R8) rfl (⟨sp, sc, sq, sd, p6, c6⟩ : Tw) rfl rfl ?_
                intro w9 L9 k9
                have lz9 : w8.heap.size ≤ w9.heap.size := k9.size
                have hS9 : w9.heap[gv]? = w8.heap[gv]? ∧ w9.heap[gh]? = w8.heap[gh]? := ⟨k9.block gv (by show gv < w8.heap.size; omega) (by intro h; have h := Option.some.inj h; omega), k9.block gh (by show gh < w8.heap.size; omega) (by intro h; have h := Option.some.inj h; omega)⟩
                have J9 := Lv.kp (Lv.draw J8) k9 (by omega)
                refine hK.out _ _ hS9 (fun hHeld => ?_)
                clear hK K
                try simp only [Act.put, List.getElem_toArray, List.getElem_cons_succ, List.getElem_cons_zero]
                refine wpAnyH_ready (rs := [3]) (by kernel_rfl) (by simp) ?_
                refine AllReadyH.cons (o := _) rfl (fun K hK => ?_) (AllReadyH.nil)
                refine step_stV (E := eH) rfl 38 _ _ rfl size38 (w.heap.size + 1 + 1) _ J9 rfl ((q : Int), tG) rfl rfl ?_
                intro w10 L10 k10
                have hS10 : w10.heap[gv]? = w8.heap[gv]? ∧ w10.heap[gh]? = w8.heap[gh]? := ⟨(k10.block gv (by omega) (by intro h; have h := Option.some.inj h; omega)).trans hS9.1, (k10.block gh (by omega) (by intro h; have h := Option.some.inj h; omega)).trans hS9.2⟩
                refine hK.out _ _ hS10 (fun hHeld => ?_)
                clear hK K
                try simp only [Act.put, List.getElem_toArray, List.getElem_cons_succ, List.getElem_cons_zero]
                refine wpAnyH_take (i := 4) (oi := _) (v := ?_) rfl (by kernel_rfl) (by kernel_rfl) (by kernel_rfl) (fun _ _ _ h => h) (Or.inl ⟨by rfl, ?_⟩) hHeld ?_
                rotate_left
                · intro w' hSw
                  (go_simp <;> with_reducible rfl)
                try simp only [Act.put, List.getElem_toArray, List.getElem_cons_succ, List.getElem_cons_zero, List.setIfInBounds_toArray, List.set_cons_zero, List.set_cons_succ]
                refine wpAnyH_done (by kernel_rfl) ?_ _
                have e9 := load35 (x := (⟨sp, sc, sq, sd, p6, c6⟩ : Tw)) (Lv.kp L9 k10 (by omega))
                have e10 := load38 L10
                have B9 : Below w.heap.size w w9 := bel_kp B8.drew k9 (by omega) (by have := B8.size; exact this)
                have B10 : Below w.heap.size w w10 := bel_kp B9 k10 (by omega) B9.size
                have o10 := own_kp (own_kp (own_below o8 (Below.refl _ _).drew) k9 (by omega)) k10 (by omega)
                have g10 := rd_kpF (rd_kpF (r18.below (Below.refl _ _).drew) k9 (nn1.far (by omega))) k10 (nn1.far (by omega))
                have i10 := rd_kpF (rd_kpF (r28.below (Below.refl _ _).drew) k9 (nn2.far (by omega))) k10 (nn2.far (by omega))
                go_wp2
                refine bodyPost_ret (v := .tuple #[.agg #[.slice sp 12 sc, .slice sq 12 sd, .slice p6 12 c6], .agg #[.int .i64 (q : Int), .int .i64 tG], .bool true]) (by simp [results, Try.results23, asAddr, e9, e10]) rfl ⟨(⟨sp, sc, sq, sd, p6, c6⟩ : Tw), by first | rfl | (rw [hQ.1, hQ.2.1, hQ.2.2]; done), ?_, B10⟩
                rw [HT.out]
                exact ⟨g10, i10, ⟨_, own_rd o10, (hts.below B10).set q (okN.below B10)⟩, HLn.out.1, HLn.out.2, by simp [ht.tl]⟩
              · go_simp
                have hv : Lv (w5.alloc (.cells #[.slice none 0 0, .slice none 0 0, .slice none 0 0] 35)) w5.heap.size #[.slice none 0 0, .slice none 0 0, .slice none 0 0] 35 := Lv.new _ _ _
                have bv : Below w4.heap.size w4 (w5.alloc (.cells #[.slice none 0 0, .slice none 0 0, .slice none 0 0] 35)) := b5.alloc b5.size _
                have lzv := bv.size
                have hge : w4.heap.size ≤ w5.heap.size := b5.size
                generalize hgW : (w5.alloc (.cells #[.slice none 0 0, .slice none 0 0, .slice none 0 0] 35)) = wv at *
                clear hgW
                obtain ⟨gv, hgv⟩ : ∃ gv, gv = w5.heap.size := ⟨_, rfl⟩
                rw [← hgv] at hv hge
                try simp only [← hgv]
                clear hgv
                refine hK.out _ _ bv (fun hHeld => ?_)
                clear hK K
                try simp only [Act.put, List.getElem_toArray, List.getElem_cons_succ, List.getElem_cons_zero, List.setIfInBounds_toArray, List.set_cons_zero, List.set_cons_succ]
                refine wpAnyH_ready (rs := [6]) (by kernel_rfl) (by simp) ?_
                refine AllReadyH.cons (o := _) rfl (fun K hK => ?_) (AllReadyH.nil)
                go_simp
                go_at_call 39; refine (with_own x xs _ (hxs.below (bW4.trans (bv.mono bW4.size))) HXL.out q hq12 (⟨k, (q : Int), tG, C, 0, none, 0, 0, none, 0, 0, 0, none, 0, 0, S⟩ : Tc)).mono ?_
                rintro e w6 ⟨p6, c6, rfl, o6, b6'⟩
                have lz6 := b6'.size
                have b6 := bel_call bv (Nat.le_refl _) b6'
                have hv := hv.below b6'
                refine hK.out _ _ b6 (fun hHeld => ?_)
                clear hK K
                try simp only [Act.put, List.getElem_toArray, List.getElem_cons_succ, List.getElem_cons_zero, List.setIfInBounds_toArray, List.set_cons_zero, List.set_cons_succ]
                refine wpAnyH_ready (rs := [8]) (by kernel_rfl) (by simp) ?_
                refine AllReadyH.cons (o := _) rfl (fun K hK => ?_) (AllReadyH.nil)
                refine step_stV (E := eTb) rfl 35 _ _ rfl size35 gv _ hv rfl (⟨x.gp, x.gc, x.ip, x.ic, p6, c6⟩ : Tw) rfl rfl ?_
                intro w7 L7 k7
                have b7 : Below w4.heap.size w4 w7 := bel_kp b6 k7 hge b6.size
                have ft : Far p6 gv := Far.type o6 hv (by decide)
                have o7 := own_block_eq (w' := w7) o6 (fun b o e => k7.block b (by subst e; exact own_lt o6) (by intro h; have h := Option.some.inj h; exact ft b o e h))
                refine hK.out _ _ b7 (fun hHeld => ?_)
                clear hK K
                try simp only [Act.put, List.getElem_toArray, List.getElem_cons_succ, List.getElem_cons_zero]
                refine wpAnyH_done (by kernel_rfl) ?_ _
                have l7 : w4.heap.size ≤ w7.heap.size := b7.size
                have H7 := H3.below b7
                have S7 := S3.below b7
                have t0 := S7.c 0 rfl
                have t1 := S7.c 1 rfl
                have N7 : Vw w7 gv (⟨x.gp, x.gc, x.ip, x.ic, p6, c6⟩ : Tw) 35 := L7
                have r17 := r1.below b7
                have r27 := r2.below b7
                go_wp2_with (refine wpList_stP rfl 32 (.tmp 70) (.tmp 69) rfl gv 0 _ 35 N7 [.slice sp 12 sc, .slice sq 12 sd] size32p (by simp) (by intro v hv; simp at hv; rcases hv with rfl | rfl <;> rfl) rfl rfl ?_; intro w8 Q8 k8)
                have N8 : Vw w8 gv (⟨sp, sc, sq, sd, p6, c6⟩ : Tw) 35 := Q8
                have f8 : Far p6 gv := Far.type o7 N7 (by decide)
                have o8 := own_block_eq (w' := w8) o7 (fun b o e => k8.block b (by subst e; exact own_lt o7) (by intro h; have h := Option.some.inj h; exact f8 b o e h))
                have H8 := H7.kp k8 (by omega)
                have R8 : Lv w8 (w.heap.size + 1) #[.slice none 0 0, .slice none 0 0, .slice none 0 0] 35 := (R4.below b7).kp k8 (by omega)
                have J8 : Lv w8 (w.heap.size + 1 + 1) #[.int .i64 0, .int .i64 0] 38 := (J4.below b7).kp k8 (by omega)
                have r18 := rd_kpF r17 k8 (fp1.mono2 hge)
                have r28 := rd_kpF r27 k8 (fp2.mono2 hge)
                have qv2 : gv < w8.heap.size := N8.lt
                have qh2 : gh < w8.heap.size := H8.lt
                have lz8 := k8.size
                have B8 : Below w.heap.size w w8 := bel_kp (bW4.trans (b7.mono bW4.size)) k8 (by omega) (bW4.trans (b7.mono bW4.size)).size
                have hw4 := bW4.size
                clear hHeld t0 t1 N7 S7 H7 Q8
                refine wp_region_held_drew (S := fun w' => w'.heap[gv]? = w8.heap[gv]? ∧ w'.heap[gh]? = w8.heap[gh]?) (by kernel_rfl) ⟨rfl, rfl⟩ (fun hHeld => ?_)
                refine wpAnyH_take (i := 0) (oi := _) (v := ?_) rfl (by kernel_rfl) (by kernel_rfl) (by kernel_rfl) (fun _ _ _ h => h) (Or.inl ⟨by rfl, ?_⟩) hHeld ?_
                rotate_left
                · intro w' hSw
                  obtain ⟨e0, e1, e2⟩ := Vw.at (show Vw w' gv (⟨sp, sc, sq, sd, p6, c6⟩ : Tw) 35 from hSw.1.trans N8)
                  have h0 := Lv.c (show Lv w' gh #[.int .i64 (q : Int), .int .i64 tG] 38 from hSw.2.trans H8) 0 rfl
                  have h1 := Lv.c (show Lv w' gh #[.int .i64 (q : Int), .int .i64 tG] 38 from hSw.2.trans H8) 1 rfl
                  (go_simp <;> with_reducible rfl)
                try simp only [Act.put, List.getElem_toArray, List.getElem_cons_zero, List.setIfInBounds_toArray, List.set_cons_zero, List.set_cons_succ]
                refine wpAnyH_take (i := 1) (oi := _) (v := ?_) rfl (by kernel_rfl) (by kernel_rfl) (by kernel_rfl) (fun _ _ _ h => h) (Or.inl ⟨by rfl, ?_⟩) hHeld ?_
                rotate_left
                · intro w' hSw
                  obtain ⟨e0, e1, e2⟩ := Vw.at (show Vw w' gv (⟨sp, sc, sq, sd, p6, c6⟩ : Tw) 35 from hSw.1.trans N8)
                  have h0 := Lv.c (show Lv w' gh #[.int .i64 (q : Int), .int .i64 tG] 38 from hSw.2.trans H8) 0 rfl
                  have h1 := Lv.c (show Lv w' gh #[.int .i64 (q : Int), .int .i64 tG] 38 from hSw.2.trans H8) 1 rfl
                  (go_simp <;> with_reducible rfl)
                try simp only [Act.put, List.getElem_toArray, List.getElem_cons_succ, List.getElem_cons_zero, List.setIfInBounds_toArray, List.set_cons_zero, List.set_cons_succ]
                refine wpAnyH_ready (rs := [2]) (by kernel_rfl) (by simp) ?_
                refine AllReadyH.cons (o := _) rfl (fun K hK => ?_) (AllReadyH.nil)
                refine step_stV (E := eTb) rfl 35 _ _ rfl size35 (w.heap.size + 1) _ (Lv.draw R8) rfl (⟨sp, sc, sq, sd, p6, c6⟩ : Tw) rfl rfl ?_
                intro w9 L9 k9
                have lz9 : w8.heap.size ≤ w9.heap.size := k9.size
                have hS9 : w9.heap[gv]? = w8.heap[gv]? ∧ w9.heap[gh]? = w8.heap[gh]? := ⟨k9.block gv (by show gv < w8.heap.size; omega) (by intro h; have h := Option.some.inj h; omega), k9.block gh (by show gh < w8.heap.size; omega) (by intro h; have h := Option.some.inj h; omega)⟩
                have J9 := Lv.kp (Lv.draw J8) k9 (by omega)
                refine hK.out _ _ hS9 (fun hHeld => ?_)
                clear hK K
                try simp only [Act.put, List.getElem_toArray, List.getElem_cons_succ, List.getElem_cons_zero]
                refine wpAnyH_ready (rs := [3]) (by kernel_rfl) (by simp) ?_
                refine AllReadyH.cons (o := _) rfl (fun K hK => ?_) (AllReadyH.nil)
                refine step_stV (E := eH) rfl 38 _ _ rfl size38 (w.heap.size + 1 + 1) _ J9 rfl ((q : Int), tG) rfl rfl ?_
                intro w10 L10 k10
                have hS10 : w10.heap[gv]? = w8.heap[gv]? ∧ w10.heap[gh]? = w8.heap[gh]? := ⟨(k10.block gv (by omega) (by intro h; have h := Option.some.inj h; omega)).trans hS9.1, (k10.block gh (by omega) (by intro h; have h := Option.some.inj h; omega)).trans hS9.2⟩
                refine hK.out _ _ hS10 (fun hHeld => ?_)
                clear hK K
                try simp only [Act.put, List.getElem_toArray, List.getElem_cons_succ, List.getElem_cons_zero]
                refine wpAnyH_take (i := 4) (oi := _) (v := ?_) rfl (by kernel_rfl) (by kernel_rfl) (by kernel_rfl) (fun _ _ _ h => h) (Or.inl ⟨by rfl, ?_⟩) hHeld ?_
                rotate_left
                · intro w' hSw
                  (go_simp <;> with_reducible rfl)
                try simp only [Act.put, List.getElem_toArray, List.getElem_cons_succ, List.getElem_cons_zero, List.setIfInBounds_toArray, List.set_cons_zero, List.set_cons_succ]
                refine wpAnyH_done (by kernel_rfl) ?_ _
                have e9 := load35 (x := (⟨sp, sc, sq, sd, p6, c6⟩ : Tw)) (Lv.kp L9 k10 (by omega))
                have e10 := load38 L10
                have B9 : Below w.heap.size w w9 := bel_kp B8.drew k9 (by omega) (by have := B8.size; exact this)
                have B10 : Below w.heap.size w w10 := bel_kp B9 k10 (by omega) B9.size
                have o10 := own_kp (own_kp (own_below o8 (Below.refl _ _).drew) k9 (by omega)) k10 (by omega)
                have g10 := rd_kpF (rd_kpF (r18.below (Below.refl _ _).drew) k9 (nn1.far (by omega))) k10 (nn1.far (by omega))
                have i10 := rd_kpF (rd_kpF (r28.below (Below.refl _ _).drew) k9 (nn2.far (by omega))) k10 (nn2.far (by omega))
                go_wp2
                refine bodyPost_ret (v := .tuple #[.agg #[.slice sp 12 sc, .slice sq 12 sd, .slice p6 12 c6], .agg #[.int .i64 (q : Int), .int .i64 tG], .bool true]) (by simp [results, Try.results23, asAddr, e9, e10]) rfl ⟨(⟨sp, sc, sq, sd, p6, c6⟩ : Tw), by first | rfl | (rw [hQ.1, hQ.2.1, hQ.2.2]; done), ?_, B10⟩
                rw [HT.out]
                exact ⟨g10, i10, ⟨_, own_rd o10, (hts.below B10).set q (okN.below B10)⟩, HLn.out.1, HLn.out.2, by simp [ht.tl]⟩
            · go_simp
              have hv : Lv (w4.alloc (.cells #[.slice none 0 0, .slice none 0 0, .slice none 0 0] 35)).drew w4.heap.size #[.slice none 0 0, .slice none 0 0, .slice none 0 0] 35 := Lv.draw (Lv.new _ _ _)
              have bv : Below w4.heap.size w4 (w4.alloc (.cells #[.slice none 0 0, .slice none 0 0, .slice none 0 0] 35)).drew := (bel_self _ _).drew
              have lzv := bv.size
              have hge : w4.heap.size ≤ w4.heap.size := Nat.le_refl _
              generalize hgW : (w4.alloc (.cells #[.slice none 0 0, .slice none 0 0, .slice none 0 0] 35)).drew = wv at *
              clear hgW
              obtain ⟨gv, hgv⟩ : ∃ gv, gv = w4.heap.size := ⟨_, rfl⟩
              rw [← hgv] at hv
              try simp only [← hgv]
              clear hge
              have hge : w4.heap.size ≤ gv := by rw [hgv]; exact Nat.le_refl _
              clear hgv
              refine hK.out _ _ bv (fun hHeld => ?_)
              clear hK K
              try simp only [Act.put, List.getElem_toArray, List.getElem_cons_succ, List.getElem_cons_zero, List.setIfInBounds_toArray, List.set_cons_zero, List.set_cons_succ]
              refine wpAnyH_ready (rs := [5]) (by kernel_rfl) (by simp) ?_
              refine AllReadyH.cons (o := _) rfl (fun K hK => ?_) (AllReadyH.nil)
              go_simp
              go_at_call 48; refine (freshT_c k (q : Int) tG _ S HS.out C HC.out).mono ?_
              rintro e w5 ⟨rfl, b5'⟩
              have b5 := bel_call bv (Nat.le_refl _) b5'
              have lz5 := b5.size
              have hv := hv.below b5'
              refine hK.out _ _ b5 (fun hHeld => ?_)
              clear hK K
              try simp only [Act.put, List.getElem_toArray, List.getElem_cons_succ, List.getElem_cons_zero, List.setIfInBounds_toArray, List.set_cons_zero, List.set_cons_succ]
              refine wpAnyH_ready (rs := [6]) (by kernel_rfl) (by simp) ?_
              refine AllReadyH.cons (o := _) rfl (fun K hK => ?_) (AllReadyH.nil)
              go_simp
              go_at_call 39; refine (with_own x xs _ (hxs.below (bW4.trans (b5.mono bW4.size))) HXL.out q hq12 (⟨k, (q : Int), tG, C, 0, none, 0, 0, none, 0, 0, 0, none, 0, 0, S⟩ : Tc)).mono ?_
              rintro e w6 ⟨p6, c6, rfl, o6, b6'⟩
              have lz6 := b6'.size
              have b6 := bel_call b5 (Nat.le_refl _) b6'
              have hv := hv.below b6'
              refine hK.out _ _ b6 (fun hHeld => ?_)
              clear hK K
              try simp only [Act.put, List.getElem_toArray, List.getElem_cons_succ, List.getElem_cons_zero, List.setIfInBounds_toArray, List.set_cons_zero, List.set_cons_succ]
              refine wpAnyH_ready (rs := [8]) (by kernel_rfl) (by simp) ?_
              refine AllReadyH.cons (o := _) rfl (fun K hK => ?_) (AllReadyH.nil)
              refine step_stV (E := eTb) rfl 35 _ _ rfl size35 gv _ hv rfl (⟨x.gp, x.gc, x.ip, x.ic, p6, c6⟩ : Tw) rfl rfl ?_
              intro w7 L7 k7
              have b7 : Below w4.heap.size w4 w7 := bel_kp b6 k7 hge b6.size
              have ft : Far p6 gv := Far.type o6 hv (by decide)
              have o7 := own_block_eq (w' := w7) o6 (fun b o e => k7.block b (by subst e; exact own_lt o6) (by intro h; have h := Option.some.inj h; exact ft b o e h))
              refine hK.out _ _ b7 (fun hHeld => ?_)
              clear hK K
              try simp only [Act.put, List.getElem_toArray, List.getElem_cons_succ, List.getElem_cons_zero]
              refine wpAnyH_done (by kernel_rfl) ?_ _
              have l7 : w4.heap.size ≤ w7.heap.size := b7.size
              have H7 := H3.below b7
              have S7 := S3.below b7
              have t0 := S7.c 0 rfl
              have t1 := S7.c 1 rfl
              have N7 : Vw w7 gv (⟨x.gp, x.gc, x.ip, x.ic, p6, c6⟩ : Tw) 35 := L7
              have r17 := r1.below b7
              have r27 := r2.below b7
              go_wp2_with (refine wpList_stP rfl 32 (.tmp 70) (.tmp 69) rfl gv 0 _ 35 N7 [.slice sp 12 sc, .slice sq 12 sd] size32p (by simp) (by intro v hv; simp at hv; rcases hv with rfl | rfl <;> rfl) rfl rfl ?_; intro w8 Q8 k8)
              have N8 : Vw w8 gv (⟨sp, sc, sq, sd, p6, c6⟩ : Tw) 35 := Q8
              have f8 : Far p6 gv := Far.type o7 N7 (by decide)
              have o8 := own_block_eq (w' := w8) o7 (fun b o e => k8.block b (by subst e; exact own_lt o7) (by intro h; have h := Option.some.inj h; exact f8 b o e h))
              have H8 := H7.kp k8 (by omega)
              have R8 : Lv w8 (w.heap.size + 1) #[.slice none 0 0, .slice none 0 0, .slice none 0 0] 35 := (R4.below b7).kp k8 (by omega)
              have J8 : Lv w8 (w.heap.size + 1 + 1) #[.int .i64 0, .int .i64 0] 38 := (J4.below b7).kp k8 (by omega)
              have r18 := rd_kpF r17 k8 (fp1.mono2 hge)
              have r28 := rd_kpF r27 k8 (fp2.mono2 hge)
              have qv2 : gv < w8.heap.size := N8.lt
              have qh2 : gh < w8.heap.size := H8.lt
              have lz8 := k8.size
              have B8 : Below w.heap.size w w8 := bel_kp (bW4.trans (b7.mono bW4.size)) k8 (by omega) (bW4.trans (b7.mono bW4.size)).size
              have hw4 := bW4.size
              clear hHeld t0 t1 N7 S7 H7 Q8
              refine wp_region_held_drew (S := fun w' => w'.heap[gv]? = w8.heap[gv]? ∧ w'.heap[gh]? = w8.heap[gh]?) (by kernel_rfl) ⟨rfl, rfl⟩ (fun hHeld => ?_)
              refine wpAnyH_take (i := 0) (oi := _) (v := ?_) rfl (by kernel_rfl) (by kernel_rfl) (by kernel_rfl) (fun _ _ _ h => h) (Or.inl ⟨by rfl, ?_⟩) hHeld ?_
              rotate_left
              · intro w' hSw
                obtain ⟨e0, e1, e2⟩ := Vw.at (show Vw w' gv (⟨sp, sc, sq, sd, p6, c6⟩ : Tw) 35 from hSw.1.trans N8)
                have h0 := Lv.c (show Lv w' gh #[.int .i64 (q : Int), .int .i64 tG] 38 from hSw.2.trans H8) 0 rfl
                have h1 := Lv.c (show Lv w' gh #[.int .i64 (q : Int), .int .i64 tG] 38 from hSw.2.trans H8) 1 rfl
                (go_simp <;> with_reducible rfl)
              try simp only [Act.put, List.getElem_toArray, List.getElem_cons_zero, List.setIfInBounds_toArray, List.set_cons_zero, List.set_cons_succ]
              refine wpAnyH_take (i := 1) (oi := _) (v := ?_) rfl (by kernel_rfl) (by kernel_rfl) (by kernel_rfl) (fun _ _ _ h => h) (Or.inl ⟨by rfl, ?_⟩) hHeld ?_
              rotate_left
              · intro w' hSw
                obtain ⟨e0, e1, e2⟩ := Vw.at (show Vw w' gv (⟨sp, sc, sq, sd, p6, c6⟩ : Tw) 35 from hSw.1.trans N8)
                have h0 := Lv.c (show Lv w' gh #[.int .i64 (q : Int), .int .i64 tG] 38 from hSw.2.trans H8) 0 rfl
                have h1 := Lv.c (show Lv w' gh #[.int .i64 (q : Int), .int .i64 tG] 38 from hSw.2.trans H8) 1 rfl
                (go_simp <;> with_reducible rfl)
              try simp only [Act.put, List.getElem_toArray, List.getElem_cons_succ, List.getElem_cons_zero, List.setIfInBounds_toArray, List.set_cons_zero, List.set_cons_succ]
              refine wpAnyH_ready (rs := [2]) (by kernel_rfl) (by simp) ?_
              refine AllReadyH.cons (o := _) rfl (fun K hK => ?_) (AllReadyH.nil)
              refine step_stV (E := eTb) rfl 35 _ _ rfl size35 (w.heap.size + 1) _ (Lv.draw R8) rfl (⟨sp, sc, sq, sd, p6, c6⟩ : Tw) rfl rfl ?_
              intro w9 L9 k9
              have lz9 : w8.heap.size ≤ w9.heap.size := k9.size
              have hS9 : w9.heap[gv]? = w8.heap[gv]? ∧ w9.heap[gh]? = w8.heap[gh]? := ⟨k9.block gv (by show gv < w8.heap.size; omega) (by intro h; have h := Option.some.inj h; omega), k9.block gh (by show gh < w8.heap.size; omega) (by intro h; have h := Option.some.inj h; omega)⟩
              have J9 := Lv.kp (Lv.draw J8) k9 (by omega)
              refine hK.out _ _ hS9 (fun hHeld => ?_)
              clear hK K
              try simp only [Act.put, List.getElem_toArray, List.getElem_cons_succ, List.getElem_cons_zero]
              refine wpAnyH_ready (rs := [3]) (by kernel_rfl) (by simp) ?_
              refine AllReadyH.cons (o := _) rfl (fun K hK => ?_) (AllReadyH.nil)
              refine step_stV (E := eH) rfl 38 _ _ rfl size38 (w.heap.size + 1 + 1) _ J9 rfl ((q : Int), tG) rfl rfl ?_
              intro w10 L10 k10
              have hS10 : w10.heap[gv]? = w8.heap[gv]? ∧ w10.heap[gh]? = w8.heap[gh]? := ⟨(k10.block gv (by omega) (by intro h; have h := Option.some.inj h; omega)).trans hS9.1, (k10.block gh (by omega) (by intro h; have h := Option.some.inj h; omega)).trans hS9.2⟩
              refine hK.out _ _ hS10 (fun hHeld => ?_)
              clear hK K
              try simp only [Act.put, List.getElem_toArray, List.getElem_cons_succ, List.getElem_cons_zero]
              refine wpAnyH_take (i := 4) (oi := _) (v := ?_) rfl (by kernel_rfl) (by kernel_rfl) (by kernel_rfl) (fun _ _ _ h => h) (Or.inl ⟨by rfl, ?_⟩) hHeld ?_
              rotate_left
              · intro w' hSw
                (go_simp <;> with_reducible rfl)
              try simp only [Act.put, List.getElem_toArray, List.getElem_cons_succ, List.getElem_cons_zero, List.setIfInBounds_toArray, List.set_cons_zero, List.set_cons_succ]
              refine wpAnyH_done (by kernel_rfl) ?_ _
              have e9 := load35 (x := (⟨sp, sc, sq, sd, p6, c6⟩ : Tw)) (Lv.kp L9 k10 (by omega))
              have e10 := load38 L10
              have B9 : Below w.heap.size w w9 := bel_kp B8.drew k9 (by omega) (by have := B8.size; exact this)
              have B10 : Below w.heap.size w w10 := bel_kp B9 k10 (by omega) B9.size
              have o10 := own_kp (own_kp (own_below o8 (Below.refl _ _).drew) k9 (by omega)) k10 (by omega)
              have g10 := rd_kpF (rd_kpF (r18.below (Below.refl _ _).drew) k9 (nn1.far (by omega))) k10 (nn1.far (by omega))
              have i10 := rd_kpF (rd_kpF (r28.below (Below.refl _ _).drew) k9 (nn2.far (by omega))) k10 (nn2.far (by omega))
              go_wp2
              refine bodyPost_ret (v := .tuple #[.agg #[.slice sp 12 sc, .slice sq 12 sd, .slice p6 12 c6], .agg #[.int .i64 (q : Int), .int .i64 tG], .bool true]) (by simp [results, Try.results23, asAddr, e9, e10]) rfl ⟨(⟨sp, sc, sq, sd, p6, c6⟩ : Tw), by first | rfl | (rw [hQ.1, hQ.2.1, hQ.2.2]; done), ?_, B10⟩
              rw [HT.out]
              exact ⟨g10, i10, ⟨_, own_rd o10, (hts.below B10).set q (okN.below B10)⟩, HLn.out.1, HLn.out.2, by simp [ht.tl]⟩
      · subst hmo
        have y1 : (k == 1) = false := by rw [h1]; rfl
        have z1 : decide (k = 1) = false := by rw [h1]; rfl
        have y2 : (k == 2) = false := by rw [h1]; rfl
        have z2 : decide (k = 2) = false := by rw [h1]; rfl
        have y3 : (k == 3) = true := by simpa using h1
        have z3 : decide (k = 3) = true := by simpa using h1
        by_cases hlm : 4 ≤ l
        · have d1 : decide ((4 : Int) ≤ (l : Int)) = true := by simp; omega
          have hQ : B = false ∧ A = 0 ∧ G = 0 := by
            have hf : mkOk T k = false := by unfold mkOk; rw [HM.out, HMO.out]; simp; omega
            refine ⟨by rw [← HBB.out.1, hf], by rw [← HBB.out.2.1]; unfold mkA; rw [hf]; rfl, by rw [← HBB.out.2.2]; unfold mkG; rw [hf]; rfl⟩
          have HT : Hid (mkR T k = T) := by
            have hf : mkOk T k = false := by unfold mkOk; rw [HM.out, HMO.out]; simp; omega
            show _ = _; unfold mkR; rw [hf]; rfl
          clear h1
          go_wp2_with (first
            | (go_at_call 52; refine (rtake_t x T N _ hT hw hN tA tG fr HF.out.2.1 HF.out.2.2 HF.out.1).mono ?_; rintro e w2 ⟨sp, sc, sq, sd, rfl, r1, r2, nn1, nn2, b2⟩; have s2 : Below w2.heap.size w2 ((w2.alloc (.cells #[.slice sp 12 sc, .slice sq 12 sd] 32)).alloc (.cells #[.int .i64 tA, .int .i64 tG] 38)) := ((Below.refl _ _).alloc (Nat.le_refl _) _).alloc (by simp) _; have a3 := bel_call b2 (Nat.le_refl _) s2; have S3 : Lv ((w2.alloc (.cells #[.slice sp 12 sc, .slice sq 12 sd] 32)).alloc (.cells #[.int .i64 tA, .int .i64 tG] 38)) w2.heap.size #[.slice sp 12 sc, .slice sq 12 sd] 32 := Lv.below (Lv.new _ _ _) (bel_self _ _); have H3 : Lv ((w2.alloc (.cells #[.slice sp 12 sc, .slice sq 12 sd] 32)).alloc (.cells #[.int .i64 tA, .int .i64 tG] 38)) (w2.heap.size + 1) #[.int .i64 tA, .int .i64 tG] 38 := heap_at (by simp); have R3 := hR.below a3; have J3 := hH.below a3; clear c0 c1 c2; obtain ⟨c0, c1, c2⟩ := (hV.below a3).at)
            | (refine wpList_stV (E := eTb) rfl 35 (.tmp 4) (.tmp 60) rfl size35 (w.heap.size + 1) _ R3 rfl x rfl rfl ?_; intro w9 L9 k9; have H9 := J3.kp k9 (by omega); have h90 := H9.c 0 rfl; have h91 := H9.c 1 rfl; have z90 := H9.fz 0; have z91 := H9.fz 1))
          have e9 := load35 L9
          have B9 : Below w.heap.size w w9 := bel_kp (bel_call bW (Nat.le_refl _) a3) k9 (by omega) (bel_call bW (Nat.le_refl _) a3).size
          have L10 : Lv ((w9.setCell ⟨w.heap.size + 1 + 1, 0, none⟩ (.int .i64 0)).setCell ⟨w.heap.size + 1 + 1, 1, none⟩ (.int .i64 0)) (w.heap.size + 1) _ 35 := (L9.far (a := ⟨w.heap.size + 1 + 1, 0, none⟩) (by simp) _).far (a := ⟨w.heap.size + 1 + 1, 1, none⟩) (by simp) _
          have e10 := load35 (x := x) L10
          have H10 := (H9.set 0 (.int .i64 0)).set 1 (.int .i64 0)
          have e11 := load38 (a := 0) (b := 0) H10
          have B10 := Below.setCell (Below.setCell B9 (p := ⟨w.heap.size + 1 + 1, 0, none⟩) (by show w.heap.size ≤ w.heap.size + 1 + 1; omega) (.int .i64 0)) (p := ⟨w.heap.size + 1 + 1, 1, none⟩) (by show w.heap.size ≤ w.heap.size + 1 + 1; omega) (.int .i64 0)
          refine bodyPost_ret (v := .tuple #[.agg #[.slice x.gp 12 x.gc, .slice x.ip 12 x.ic, .slice x.tp 12 x.tc], .agg #[.int .i64 0, .int .i64 0], .bool false]) (by simp [results, Try.results23, asAddr, e10, e11]) rfl ⟨x, by first | rfl | (rw [hQ.1, hQ.2.1, hQ.2.2]; done), ?_, B10⟩
          rw [HT.out]
          exact ht.below B10
        · have d1 : decide ((4 : Int) ≤ (l : Int)) = false := by simp; omega
          cases fr with
          | false =>
            have hQ : B = false ∧ A = 0 ∧ G = 0 := by
              have hf : mkOk T k = false := by unfold mkOk; rw [HF.out.1]; rfl
              refine ⟨by rw [← HBB.out.1, hf], by rw [← HBB.out.2.1]; unfold mkA; rw [hf]; rfl, by rw [← HBB.out.2.2]; unfold mkG; rw [hf]; rfl⟩
            have HT : Hid (mkR T k = T) := by
              have hf : mkOk T k = false := by unfold mkOk; rw [HF.out.1]; rfl
              show _ = _; unfold mkR; rw [hf]; rfl
            clear h1
            go_wp2_with (first
              | (go_at_call 52; refine (rtake_t x T N _ hT hw hN tA tG false HF.out.2.1 HF.out.2.2 HF.out.1).mono ?_; rintro e w2 ⟨sp, sc, sq, sd, rfl, r1, r2, nn1, nn2, b2⟩; have s2 : Below w2.heap.size w2 ((w2.alloc (.cells #[.slice sp 12 sc, .slice sq 12 sd] 32)).alloc (.cells #[.int .i64 tA, .int .i64 tG] 38)) := ((Below.refl _ _).alloc (Nat.le_refl _) _).alloc (by simp) _; have a3 := bel_call b2 (Nat.le_refl _) s2; have S3 : Lv ((w2.alloc (.cells #[.slice sp 12 sc, .slice sq 12 sd] 32)).alloc (.cells #[.int .i64 tA, .int .i64 tG] 38)) w2.heap.size #[.slice sp 12 sc, .slice sq 12 sd] 32 := Lv.below (Lv.new _ _ _) (bel_self _ _); have H3 : Lv ((w2.alloc (.cells #[.slice sp 12 sc, .slice sq 12 sd] 32)).alloc (.cells #[.int .i64 tA, .int .i64 tG] 38)) (w2.heap.size + 1) #[.int .i64 tA, .int .i64 tG] 38 := heap_at (by simp); have R3 := hR.below a3; have J3 := hH.below a3; clear c0 c1 c2; obtain ⟨c0, c1, c2⟩ := (hV.below a3).at)
              | (refine wpList_stV (E := eTb) rfl 35 (.tmp 4) (.tmp 60) rfl size35 (w.heap.size + 1) _ R3 rfl x rfl rfl ?_; intro w9 L9 k9; have H9 := J3.kp k9 (by omega); have h90 := H9.c 0 rfl; have h91 := H9.c 1 rfl; have z90 := H9.fz 0; have z91 := H9.fz 1))
            have e9 := load35 L9
            have B9 : Below w.heap.size w w9 := bel_kp (bel_call bW (Nat.le_refl _) a3) k9 (by omega) (bel_call bW (Nat.le_refl _) a3).size
            have L10 : Lv ((w9.setCell ⟨w.heap.size + 1 + 1, 0, none⟩ (.int .i64 0)).setCell ⟨w.heap.size + 1 + 1, 1, none⟩ (.int .i64 0)) (w.heap.size + 1) _ 35 := (L9.far (a := ⟨w.heap.size + 1 + 1, 0, none⟩) (by simp) _).far (a := ⟨w.heap.size + 1 + 1, 1, none⟩) (by simp) _
            have e10 := load35 (x := x) L10
            have H10 := (H9.set 0 (.int .i64 0)).set 1 (.int .i64 0)
            have e11 := load38 (a := 0) (b := 0) H10
            have B10 := Below.setCell (Below.setCell B9 (p := ⟨w.heap.size + 1 + 1, 0, none⟩) (by show w.heap.size ≤ w.heap.size + 1 + 1; omega) (.int .i64 0)) (p := ⟨w.heap.size + 1 + 1, 1, none⟩) (by show w.heap.size ≤ w.heap.size + 1 + 1; omega) (.int .i64 0)
            refine bodyPost_ret (v := .tuple #[.agg #[.slice x.gp 12 x.gc, .slice x.ip 12 x.ic, .slice x.tp 12 x.tc], .agg #[.int .i64 0, .int .i64 0], .bool false]) (by simp [results, Try.results23, asAddr, e10, e11]) rfl ⟨x, by first | rfl | (rw [hQ.1, hQ.2.1, hQ.2.2]; done), ?_, B10⟩
            rw [HT.out]
            exact ht.below B10
          | true =>
            clear h1
            have hlt : l < 4 := by omega
            have hfT : mkOk T k = true := by unfold mkOk; rw [HM.out, HMO.out, HF.out.1]; simpa using hlt
            obtain ⟨q, hq⟩ := Option.isSome_iff_exists.1 (show (Slo.freeIn T.G T.I).isSome = true from HF.out.1)
            obtain ⟨hq12, _⟩ := free_of hw hq
            have hqA : tA = (q : Int) := by rw [← HF.out.2.1]; unfold Slo.tAt; rw [hq]
            subst hqA
            have hQ : B = true ∧ A = (q : Int) ∧ G = tG := ⟨by rw [← HBB.out.1, hfT], by rw [← HBB.out.2.1]; unfold mkA; rw [hfT]; exact HF.out.2.1, by rw [← HBB.out.2.2]; unfold mkG; rw [hfT]; exact HF.out.2.2⟩
            have HT : Hid (mkR T k = ⟨Slo.tg T.G T.I, Slo.tb T.G T.I, T.T.set q (freshT k (q : Int) tG 8)⟩) := by show _ = _; unfold mkR mkT; rw [hfT, HF.out.2.1, HF.out.2.2]; rfl
            obtain ⟨S, hS⟩ : ∃ S, (freshT k (q : Int) tG 8).s = S := ⟨_, rfl⟩
            have HS : Hid ((freshT k (q : Int) tG 8).s = S) := hS
            have hqI : (q : Int) < 12 := by omega
            obtain ⟨C, hC⟩ : ∃ C, (if k = 1 then (8 : Int) else 0) = C := ⟨_, rfl⟩
            have HC : Hid ((if k = 1 then (8 : Int) else 0) = C) := hC
            clear hC
            have hqZ : (0 : Int) ≤ (q : Int) := by omega
            have dq : decide ((12 : Int) ≤ (q : Int)) = false := by simp; omega
            have HLn : Hid ((Slo.tg T.G T.I).length = 12 ∧ (Slo.tb T.G T.I).length = 12) := ⟨by rw [Slo.tg_len]; exact ht.gl, by rw [Slo.tb_len]; exact ht.il⟩
            have okN : Ok w (⟨k, (q : Int), tG, C, 0, none, 0, 0, none, 0, 0, 0, none, 0, 0, S⟩ : Tc) (freshT k (q : Int) tG 8) := Ok.freshC w k (q : Int) tG 8 S HS.out C HC.out
            obtain ⟨xs, hxs, hts⟩ := ht.R
            have HXL : Hid (xs.length = 12) := by show _ = _; rw [hts.1, ht.tl]
            clear hS hq hfT
            go_wp2_with (first
              | (go_at_call 52; refine (rtake_t x T N _ hT hw hN (q : Int) tG true HF.out.2.1 HF.out.2.2 HF.out.1).mono ?_; rintro e w2 ⟨sp, sc, sq, sd, rfl, r1, r2, nn1, nn2, b2⟩; have s2 : Below w2.heap.size w2 ((w2.alloc (.cells #[.slice sp 12 sc, .slice sq 12 sd] 32)).alloc (.cells #[.int .i64 (q : Int), .int .i64 tG] 38)) := ((Below.refl _ _).alloc (Nat.le_refl _) _).alloc (by simp) _; have a3 := bel_call b2 (Nat.le_refl _) s2; have S3 : Lv ((w2.alloc (.cells #[.slice sp 12 sc, .slice sq 12 sd] 32)).alloc (.cells #[.int .i64 (q : Int), .int .i64 tG] 38)) w2.heap.size #[.slice sp 12 sc, .slice sq 12 sd] 32 := Lv.below (Lv.new _ _ _) (bel_self _ _); have H3 : Lv ((w2.alloc (.cells #[.slice sp 12 sc, .slice sq 12 sd] 32)).alloc (.cells #[.int .i64 (q : Int), .int .i64 tG] 38)) (w2.heap.size + 1) #[.int .i64 (q : Int), .int .i64 tG] 38 := heap_at (by simp); have R3 := hR.below a3; have J3 := hH.below a3; clear c0 c1 c2; obtain ⟨c0, c1, c2⟩ := (hV.below a3).at; have h0 := H3.c 0 rfl; have h1q := H3.c 1 rfl))
            have hgh : w2.heap.size + 1 < ((w2.alloc (.cells #[.slice sp 12 sc, .slice sq 12 sd] 32)).alloc (.cells #[.int .i64 (q : Int), .int .i64 tG] 38)).heap.size := H3.lt
            have l2 := b2.size
            have fp1 : Nlt sp w2.heap.size := r1.nlt (by rw [HLn.out.1]; decide)
            have fp2 : Nlt sq w2.heap.size := r2.nlt (by rw [HLn.out.2]; decide)
            have r1 := r1.below s2
            have r2 := r2.below s2
            have V3 := hV.below a3
            have bW4 := bel_call bW (Nat.le_refl _) a3
            have ls2 := s2.size
            have fp1 := fp1.mono1 ls2
            have fp2 := fp2.mono1 ls2
            clear c0 c1 c2 h0 h1q
            generalize ((w2.alloc (.cells #[.slice sp 12 sc, .slice sq 12 sd] 32)).alloc (.cells #[.int .i64 (q : Int), .int .i64 tG] 38)) = w4 at *
            obtain ⟨gh, hghE⟩ : ∃ gh, gh = w2.heap.size + 1 := ⟨_, rfl⟩
            have qh1 : w.heap.size + 3 ≤ gh := by omega
            rw [← hghE] at H3 hgh
            have qh4 : gh < w4.heap.size := hgh
            try simp only [← hghE]
            clear hghE hgh
            have R4 := R3
            have J4 := J3
            clear R3 J3
            refine wp_region_held_drew (S := fun w' => Below w4.heap.size w4 w') (by kernel_rfl) (Below.refl _ _).drew (fun hHeld => ?_)
            refine wpAnyH_take (i := 0) (oi := _) (v := ?_) rfl (by kernel_rfl) (by kernel_rfl) (by kernel_rfl) (fun _ _ _ h => h) (Or.inl ⟨by rfl, ?_⟩) hHeld ?_
            rotate_left
            · intro w' hSw
              obtain ⟨c0, c1, c2⟩ := (V3.below hSw).at
              have h0 := (H3.below hSw).c 0 rfl
              have h1 := (H3.below hSw).c 1 rfl
              (go_simp <;> with_reducible rfl)
            try simp only [Act.put, List.getElem_toArray, List.getElem_cons_zero, List.setIfInBounds_toArray, List.set_cons_zero, List.set_cons_succ]
            refine wpAnyH_take (i := 1) (oi := _) (v := ?_) rfl (by kernel_rfl) (by kernel_rfl) (by kernel_rfl) (fun _ _ _ h => h) (Or.inl ⟨by rfl, ?_⟩) hHeld ?_
            rotate_left
            · intro w' hSw
              (go_simp <;> with_reducible rfl)
            try simp only [Act.put, List.getElem_toArray, List.getElem_cons_succ, List.getElem_cons_zero, List.setIfInBounds_toArray, List.set_cons_zero, List.set_cons_succ]
            refine wpAnyH_take (i := 2) (oi := _) (v := ?_) rfl (by kernel_rfl) (by kernel_rfl) (by kernel_rfl) (fun _ _ _ h => h) (Or.inl ⟨by rfl, ?_⟩) hHeld ?_
            rotate_left
            · intro w' hSw
              obtain ⟨c0, c1, c2⟩ := (V3.below hSw).at
              have h0 := (H3.below hSw).c 0 rfl
              have h1 := (H3.below hSw).c 1 rfl
              (go_simp <;> with_reducible rfl)
            try simp only [Act.put, List.getElem_toArray, List.getElem_cons_succ, List.getElem_cons_zero, List.setIfInBounds_toArray, List.set_cons_zero, List.set_cons_succ]
            refine wpAnyH_take (i := 3) (oi := _) (v := ?_) rfl (by kernel_rfl) (by kernel_rfl) (by kernel_rfl) (fun _ _ _ h => h) (Or.inl ⟨by rfl, ?_⟩) hHeld ?_
            rotate_left
            · intro w' hSw
              (go_simp <;> with_reducible rfl)
            try simp only [Act.put, List.getElem_toArray, List.getElem_cons_succ, List.getElem_cons_zero, List.setIfInBounds_toArray, List.set_cons_zero, List.set_cons_succ]
            refine wpAnyH_take (i := 4) (oi := _) (v := ?_) rfl (by kernel_rfl) (by kernel_rfl) (by kernel_rfl) (fun _ _ _ h => h) (Or.inl ⟨by rfl, ?_⟩) hHeld ?_
            rotate_left
            · intro w' hSw
              obtain ⟨c0, c1, c2⟩ := (V3.below hSw).at
              have h0 := (H3.below hSw).c 0 rfl
              have h1 := (H3.below hSw).c 1 rfl
              (go_simp <;> with_reducible rfl)
            try simp only [Act.put, List.getElem_toArray, List.getElem_cons_succ, List.getElem_cons_zero, List.setIfInBounds_toArray, List.set_cons_zero, List.set_cons_succ]
            refine wpAnyH_ready (rs := [5, 7]) (by kernel_rfl) (by simp) ?_
            refine AllReadyH.cons (o := _) rfl (fun K hK => ?_) (AllReadyH.cons (o := _) rfl (fun K hK => ?_) (AllReadyH.nil))
            · go_simp
              go_at_call 48; refine (freshT_c k (q : Int) tG _ S HS.out C HC.out).mono ?_
              rintro e w5 ⟨rfl, b5'⟩
              have b5 := bel_call (Below.refl w4.heap.size w4).drew (Nat.le_refl _) b5'
              have lz5 := b5.size
              refine hK.out _ _ b5 (fun hHeld => ?_)
              clear hK K
              try simp only [Act.put, List.getElem_toArray, List.getElem_cons_succ, List.getElem_cons_zero, List.setIfInBounds_toArray, List.set_cons_zero, List.set_cons_succ]
              refine wpAnyH_ready (rs := [6, 7]) (by kernel_rfl) (by simp) ?_
              refine AllReadyH.cons (o := _) rfl (fun K hK => ?_) (AllReadyH.cons (o := _) rfl (fun K hK => ?_) (AllReadyH.nil))
              · go_simp
                go_at_call 39; refine (with_own x xs _ (hxs.below (bW4.trans (b5.mono bW4.size))) HXL.out q hq12 (⟨k, (q : Int), tG, C, 0, none, 0, 0, none, 0, 0, 0, none, 0, 0, S⟩ : Tc)).mono ?_
                rintro e w6 ⟨p6, c6, rfl, o6, b6'⟩
                have lz6 := b6'.size
                have b6 := bel_call b5 (Nat.le_refl _) b6'
                refine hK.out _ _ b6 (fun hHeld => ?_)
                clear hK K
                try simp only [Act.put, List.getElem_toArray, List.getElem_cons_succ, List.getElem_cons_zero, List.setIfInBounds_toArray, List.set_cons_zero, List.set_cons_succ]
                refine wpAnyH_ready (rs := [7]) (by kernel_rfl) (by simp) ?_
                refine AllReadyH.cons (o := _) rfl (fun K hK => ?_) (AllReadyH.nil)
                go_simp
                have hv : Lv (w6.alloc (.cells #[.slice none 0 0, .slice none 0 0, .slice none 0 0] 35)) w6.heap.size #[.slice none 0 0, .slice none 0 0, .slice none 0 0] 35 := Lv.new _ _ _
                have bv : Below w4.heap.size w4 (w6.alloc (.cells #[.slice none 0 0, .slice none 0 0, .slice none 0 0] 35)) := b6.alloc b6.size _
                have o6 := own_below o6 (bel_self w6 (.cells #[.slice none 0 0, .slice none 0 0, .slice none 0 0] 35))
                have lzv := bv.size
                have hge : w4.heap.size ≤ w6.heap.size := b6.size
                generalize hgW : (w6.alloc (.cells #[.slice none 0 0, .slice none 0 0, .slice none 0 0] 35)) = wv at *
                clear hgW
                obtain ⟨gv, hgv⟩ : ∃ gv, gv = w6.heap.size := ⟨_, rfl⟩
                rw [← hgv] at hv hge
                try simp only [← hgv]
                clear hgv
                refine hK.out _ _ bv (fun hHeld => ?_)
                clear hK K
                try simp only [Act.put, List.getElem_toArray, List.getElem_cons_succ, List.getElem_cons_zero, List.setIfInBounds_toArray, List.set_cons_zero, List.set_cons_succ]
                refine wpAnyH_ready (rs := [8]) (by kernel_rfl) (by simp) ?_
                refine AllReadyH.cons (o := _) rfl (fun K hK => ?_) (AllReadyH.nil)
                refine step_stV (E := eTb) rfl 35 _ _ rfl size35 gv _ hv rfl (⟨x.gp, x.gc, x.ip, x.ic, p6, c6⟩ : Tw) rfl rfl ?_
                intro w7 L7 k7
                have b7 : Below w4.heap.size w4 w7 := bel_kp bv k7 hge bv.size
                have ft : Far p6 gv := Far.type o6 hv (by decide)
                have o7 := own_block_eq (w' := w7) o6 (fun b o e => k7.block b (by subst e; exact own_lt o6) (by intro h; have h := Option.some.inj h; exact ft b o e h))
                refine hK.out _ _ b7 (fun hHeld => ?_)
                clear hK K
                try simp only [Act.put, List.getElem_toArray, List.getElem_cons_succ, List.getElem_cons_zero]
                refine wpAnyH_done (by kernel_rfl) ?_ _
                have l7 : w4.heap.size ≤ w7.heap.size := b7.size
                have H7 := H3.below b7
                have S7 := S3.below b7
                have t0 := S7.c 0 rfl
                have t1 := S7.c 1 rfl
                have N7 : Vw w7 gv (⟨x.gp, x.gc, x.ip, x.ic, p6, c6⟩ : Tw) 35 := L7
                have r17 := r1.below b7
                have r27 := r2.below b7
                go_wp2_with (refine wpList_stP rfl 32 (.tmp 70) (.tmp 69) rfl gv 0 _ 35 N7 [.slice sp 12 sc, .slice sq 12 sd] size32p (by simp) (by intro v hv; simp at hv; rcases hv with rfl | rfl <;> rfl) rfl rfl ?_; intro w8 Q8 k8)
                have N8 : Vw w8 gv (⟨sp, sc, sq, sd, p6, c6⟩ : Tw) 35 := Q8
                have f8 : Far p6 gv := Far.type o7 N7 (by decide)
                have o8 := own_block_eq (w' := w8) o7 (fun b o e => k8.block b (by subst e; exact own_lt o7) (by intro h; have h := Option.some.inj h; exact f8 b o e h))
                have H8 := H7.kp k8 (by omega)
                have R8 : Lv w8 (w.heap.size + 1) #[.slice none 0 0, .slice none 0 0, .slice none 0 0] 35 := (R4.below b7).kp k8 (by omega)
                have J8 : Lv w8 (w.heap.size + 1 + 1) #[.int .i64 0, .int .i64 0] 38 := (J4.below b7).kp k8 (by omega)
                have r18 := rd_kpF r17 k8 (fp1.mono2 hge)
                have r28 := rd_kpF r27 k8 (fp2.mono2 hge)
                have qv2 : gv < w8.heap.size := N8.lt
                have qh2 : gh < w8.heap.size := H8.lt
                have lz8 := k8.size
                have B8 : Below w.heap.size w w8 := bel_kp (bW4.trans (b7.mono bW4.size)) k8 (by omega) (bW4.trans (b7.mono bW4.size)).size
                have hw4 := bW4.size
                clear hHeld t0 t1 N7 S7 H7 Q8
                refine wp_region_held_drew (S := fun w' => w'.heap[gv]? = w8.heap[gv]? ∧ w'.heap[gh]? = w8.heap[gh]?) (by kernel_rfl) ⟨rfl, rfl⟩ (fun hHeld => ?_)
                refine wpAnyH_take (i := 0) (oi := _) (v := ?_) rfl (by kernel_rfl) (by kernel_rfl) (by kernel_rfl) (fun _ _ _ h => h) (Or.inl ⟨by rfl, ?_⟩) hHeld ?_
                rotate_left
                · intro w' hSw
                  obtain ⟨e0, e1, e2⟩ := Vw.at (show Vw w' gv (⟨sp, sc, sq, sd, p6, c6⟩ : Tw) 35 from hSw.1.trans N8)
                  have h0 := Lv.c (show Lv w' gh #[.int .i64 (q : Int), .int .i64 tG] 38 from hSw.2.trans H8) 0 rfl
                  have h1 := Lv.c (show Lv w' gh #[.int .i64 (q : Int), .int .i64 tG] 38 from hSw.2.trans H8) 1 rfl
                  (go_simp <;> with_reducible rfl)
                try simp only [Act.put, List.getElem_toArray, List.getElem_cons_zero, List.setIfInBounds_toArray, List.set_cons_zero, List.set_cons_succ]
                refine wpAnyH_take (i := 1) (oi := _) (v := ?_) rfl (by kernel_rfl) (by kernel_rfl) (by kernel_rfl) (fun _ _ _ h => h) (Or.inl ⟨by rfl, ?_⟩) hHeld ?_
                rotate_left
                · intro w' hSw
                  obtain ⟨e0, e1, e2⟩ := Vw.at (show Vw w' gv (⟨sp, sc, sq, sd, p6, c6⟩ : Tw) 35 from hSw.1.trans N8)
                  have h0 := Lv.c (show Lv w' gh #[.int .i64 (q : Int), .int .i64 tG] 38 from hSw.2.trans H8) 0 rfl
                  have h1 := Lv.c (show Lv w' gh #[.int .i64 (q : Int), .int .i64 tG] 38 from hSw.2.trans H8) 1 rfl
                  (go_simp <;> with_reducible rfl)
                try simp only [Act.put, List.getElem_toArray, List.getElem_cons_succ, List.getElem_cons_zero, List.setIfInBounds_toArray, List.set_cons_zero, List.set_cons_succ]
                refine wpAnyH_ready (rs := [2]) (by kernel_rfl) (by simp) ?_
                refine AllReadyH.cons (o := _) rfl (fun K hK => ?_) (AllReadyH.nil)
                refine step_stV (E := eTb) rfl 35 _ _ rfl size35 (w.heap.size + 1) _ (Lv.draw R8) rfl (⟨sp, sc, sq, sd, p6, c6⟩ : Tw) rfl rfl ?_
                intro w9 L9 k9
                have lz9 : w8.heap.size ≤ w9.heap.size := k9.size
                have hS9 : w9.heap[gv]? = w8.heap[gv]? ∧ w9.heap[gh]? = w8.heap[gh]? := ⟨k9.block gv (by show gv < w8.heap.size; omega) (by intro h; have h := Option.some.inj h; omega), k9.block gh (by show gh < w8.heap.size; omega) (by intro h; have h := Option.some.inj h; omega)⟩
                have J9 := Lv.kp (Lv.draw J8) k9 (by omega)
                refine hK.out _ _ hS9 (fun hHeld => ?_)
                clear hK K
                try simp only [Act.put, List.getElem_toArray, List.getElem_cons_succ, List.getElem_cons_zero]
                refine wpAnyH_ready (rs := [3]) (by kernel_rfl) (by simp) ?_
                refine AllReadyH.cons (o := _) rfl (fun K hK => ?_) (AllReadyH.nil)
                refine step_stV (E := eH) rfl 38 _ _ rfl size38 (w.heap.size + 1 + 1) _ J9 rfl ((q : Int), tG) rfl rfl ?_
                intro w10 L10 k10
                have hS10 : w10.heap[gv]? = w8.heap[gv]? ∧ w10.heap[gh]? = w8.heap[gh]? := ⟨(k10.block gv (by omega) (by intro h; have h := Option.some.inj h; omega)).trans hS9.1, (k10.block gh (by omega) (by intro h; have h := Option.some.inj h; omega)).trans hS9.2⟩
                refine hK.out _ _ hS10 (fun hHeld => ?_)
                clear hK K
                try simp only [Act.put, List.getElem_toArray, List.getElem_cons_succ, List.getElem_cons_zero]
                refine wpAnyH_take (i := 4) (oi := _) (v := ?_) rfl (by kernel_rfl) (by kernel_rfl) (by kernel_rfl) (fun _ _ _ h => h) (Or.inl ⟨by rfl, ?_⟩) hHeld ?_
                rotate_left
                · intro w' hSw
                  (go_simp <;> with_reducible rfl)
                try simp only [Act.put, List.getElem_toArray, List.getElem_cons_succ, List.getElem_cons_zero, List.setIfInBounds_toArray, List.set_cons_zero, List.set_cons_succ]
                refine wpAnyH_done (by kernel_rfl) ?_ _
                have e9 := load35 (x := (⟨sp, sc, sq, sd, p6, c6⟩ : Tw)) (Lv.kp L9 k10 (by omega))
                have e10 := load38 L10
                have B9 : Below w.heap.size w w9 := bel_kp B8.drew k9 (by omega) (by have := B8.size; exact this)
                have B10 : Below w.heap.size w w10 := bel_kp B9 k10 (by omega) B9.size
                have o10 := own_kp (own_kp (own_below o8 (Below.refl _ _).drew) k9 (by omega)) k10 (by omega)
                have g10 := rd_kpF (rd_kpF (r18.below (Below.refl _ _).drew) k9 (nn1.far (by omega))) k10 (nn1.far (by omega))
                have i10 := rd_kpF (rd_kpF (r28.below (Below.refl _ _).drew) k9 (nn2.far (by omega))) k10 (nn2.far (by omega))
                go_wp2
                refine bodyPost_ret (v := .tuple #[.agg #[.slice sp 12 sc, .slice sq 12 sd, .slice p6 12 c6], .agg #[.int .i64 (q : Int), .int .i64 tG], .bool true]) (by simp [results, Try.results23, asAddr, e9, e10]) rfl ⟨(⟨sp, sc, sq, sd, p6, c6⟩ : Tw), by first | rfl | (rw [hQ.1, hQ.2.1, hQ.2.2]; done), ?_, B10⟩
                rw [HT.out]
                exact ⟨g10, i10, ⟨_, own_rd o10, (hts.below B10).set q (okN.below B10)⟩, HLn.out.1, HLn.out.2, by simp [ht.tl]⟩
              · go_simp
                have hv : Lv (w5.alloc (.cells #[.slice none 0 0, .slice none 0 0, .slice none 0 0] 35)) w5.heap.size #[.slice none 0 0, .slice none 0 0, .slice none 0 0] 35 := Lv.new _ _ _
                have bv : Below w4.heap.size w4 (w5.alloc (.cells #[.slice none 0 0, .slice none 0 0, .slice none 0 0] 35)) := b5.alloc b5.size _
                have lzv := bv.size
                have hge : w4.heap.size ≤ w5.heap.size := b5.size
                generalize hgW : (w5.alloc (.cells #[.slice none 0 0, .slice none 0 0, .slice none 0 0] 35)) = wv at *
                clear hgW
                obtain ⟨gv, hgv⟩ : ∃ gv, gv = w5.heap.size := ⟨_, rfl⟩
                rw [← hgv] at hv hge
                try simp only [← hgv]
                clear hgv
                refine hK.out _ _ bv (fun hHeld => ?_)
                clear hK K
                try simp only [Act.put, List.getElem_toArray, List.getElem_cons_succ, List.getElem_cons_zero, List.setIfInBounds_toArray, List.set_cons_zero, List.set_cons_succ]
                refine wpAnyH_ready (rs := [6]) (by kernel_rfl) (by simp) ?_
                refine AllReadyH.cons (o := _) rfl (fun K hK => ?_) (AllReadyH.nil)
                go_simp
                go_at_call 39; refine (with_own x xs _ (hxs.below (bW4.trans (bv.mono bW4.size))) HXL.out q hq12 (⟨k, (q : Int), tG, C, 0, none, 0, 0, none, 0, 0, 0, none, 0, 0, S⟩ : Tc)).mono ?_
                rintro e w6 ⟨p6, c6, rfl, o6, b6'⟩
                have lz6 := b6'.size
                have b6 := bel_call bv (Nat.le_refl _) b6'
                have hv := hv.below b6'
                refine hK.out _ _ b6 (fun hHeld => ?_)
                clear hK K
                try simp only [Act.put, List.getElem_toArray, List.getElem_cons_succ, List.getElem_cons_zero, List.setIfInBounds_toArray, List.set_cons_zero, List.set_cons_succ]
                refine wpAnyH_ready (rs := [8]) (by kernel_rfl) (by simp) ?_
                refine AllReadyH.cons (o := _) rfl (fun K hK => ?_) (AllReadyH.nil)
                refine step_stV (E := eTb) rfl 35 _ _ rfl size35 gv _ hv rfl (⟨x.gp, x.gc, x.ip, x.ic, p6, c6⟩ : Tw) rfl rfl ?_
                intro w7 L7 k7
                have b7 : Below w4.heap.size w4 w7 := bel_kp b6 k7 hge b6.size
                have ft : Far p6 gv := Far.type o6 hv (by decide)
                have o7 := own_block_eq (w' := w7) o6 (fun b o e => k7.block b (by subst e; exact own_lt o6) (by intro h; have h := Option.some.inj h; exact ft b o e h))
                refine hK.out _ _ b7 (fun hHeld => ?_)
                clear hK K
                try simp only [Act.put, List.getElem_toArray, List.getElem_cons_succ, List.getElem_cons_zero]
                refine wpAnyH_done (by kernel_rfl) ?_ _
                have l7 : w4.heap.size ≤ w7.heap.size := b7.size
                have H7 := H3.below b7
                have S7 := S3.below b7
                have t0 := S7.c 0 rfl
                have t1 := S7.c 1 rfl
                have N7 : Vw w7 gv (⟨x.gp, x.gc, x.ip, x.ic, p6, c6⟩ : Tw) 35 := L7
                have r17 := r1.below b7
                have r27 := r2.below b7
                go_wp2_with (refine wpList_stP rfl 32 (.tmp 70) (.tmp 69) rfl gv 0 _ 35 N7 [.slice sp 12 sc, .slice sq 12 sd] size32p (by simp) (by intro v hv; simp at hv; rcases hv with rfl | rfl <;> rfl) rfl rfl ?_; intro w8 Q8 k8)
                have N8 : Vw w8 gv (⟨sp, sc, sq, sd, p6, c6⟩ : Tw) 35 := Q8
                have f8 : Far p6 gv := Far.type o7 N7 (by decide)
                have o8 := own_block_eq (w' := w8) o7 (fun b o e => k8.block b (by subst e; exact own_lt o7) (by intro h; have h := Option.some.inj h; exact f8 b o e h))
                have H8 := H7.kp k8 (by omega)
                have R8 : Lv w8 (w.heap.size + 1) #[.slice none 0 0, .slice none 0 0, .slice none 0 0] 35 := (R4.below b7).kp k8 (by omega)
                have J8 : Lv w8 (w.heap.size + 1 + 1) #[.int .i64 0, .int .i64 0] 38 := (J4.below b7).kp k8 (by omega)
                have r18 := rd_kpF r17 k8 (fp1.mono2 hge)
                have r28 := rd_kpF r27 k8 (fp2.mono2 hge)
                have qv2 : gv < w8.heap.size := N8.lt
                have qh2 : gh < w8.heap.size := H8.lt
                have lz8 := k8.size
                have B8 : Below w.heap.size w w8 := bel_kp (bW4.trans (b7.mono bW4.size)) k8 (by omega) (bW4.trans (b7.mono bW4.size)).size
                have hw4 := bW4.size
                clear hHeld t0 t1 N7 S7 H7 Q8
                refine wp_region_held_drew (S := fun w' => w'.heap[gv]? = w8.heap[gv]? ∧ w'.heap[gh]? = w8.heap[gh]?) (by kernel_rfl) ⟨rfl, rfl⟩ (fun hHeld => ?_)
                refine wpAnyH_take (i := 0) (oi := _) (v := ?_) rfl (by kernel_rfl) (by kernel_rfl) (by kernel_rfl) (fun _ _ _ h => h) (Or.inl ⟨by rfl, ?_⟩) hHeld ?_
                rotate_left
                · intro w' hSw
                  obtain ⟨e0, e1, e2⟩ := Vw.at (show Vw w' gv (⟨sp, sc, sq, sd, p6, c6⟩ : Tw) 35 from hSw.1.trans N8)
                  have h0 := Lv.c (show Lv w' gh #[.int .i64 (q : Int), .int .i64 tG] 38 from hSw.2.trans H8) 0 rfl
                  have h1 := Lv.c (show Lv w' gh #[.int .i64 (q : Int), .int .i64 tG] 38 from hSw.2.trans H8) 1 rfl
                  (go_simp <;> with_reducible rfl)
                try simp only [Act.put, List.getElem_toArray, List.getElem_cons_zero, List.setIfInBounds_toArray, List.set_cons_zero, List.set_cons_succ]
                refine wpAnyH_take (i := 1) (oi := _) (v := ?_) rfl (by kernel_rfl) (by kernel_rfl) (by kernel_rfl) (fun _ _ _ h => h) (Or.inl ⟨by rfl, ?_⟩) hHeld ?_
                rotate_left
                · intro w' hSw
                  obtain ⟨e0, e1, e2⟩ := Vw.at (show Vw w' gv (⟨sp, sc, sq, sd, p6, c6⟩ : Tw) 35 from hSw.1.trans N8)
                  have h0 := Lv.c (show Lv w' gh #[.int .i64 (q : Int), .int .i64 tG] 38 from hSw.2.trans H8) 0 rfl
                  have h1 := Lv.c (show Lv w' gh #[.int .i64 (q : Int), .int .i64 tG] 38 from hSw.2.trans H8) 1 rfl
                  (go_simp <;> with_reducible rfl)
                try simp only [Act.put, List.getElem_toArray, List.getElem_cons_succ, List.getElem_cons_zero, List.setIfInBounds_toArray, List.set_cons_zero, List.set_cons_succ]
                refine wpAnyH_ready (rs := [2]) (by kernel_rfl) (by simp) ?_
                refine AllReadyH.cons (o := _) rfl (fun K hK => ?_) (AllReadyH.nil)
                refine step_stV (E := eTb) rfl 35 _ _ rfl size35 (w.heap.size + 1) _ (Lv.draw R8) rfl (⟨sp, sc, sq, sd, p6, c6⟩ : Tw) rfl rfl ?_
                intro w9 L9 k9
                have lz9 : w8.heap.size ≤ w9.heap.size := k9.size
                have hS9 : w9.heap[gv]? = w8.heap[gv]? ∧ w9.heap[gh]? = w8.heap[gh]? := ⟨k9.block gv (by show gv < w8.heap.size; omega) (by intro h; have h := Option.some.inj h; omega), k9.block gh (by show gh < w8.heap.size; omega) (by intro h; have h := Option.some.inj h; omega)⟩
                have J9 := Lv.kp (Lv.draw J8) k9 (by omega)
                refine hK.out _ _ hS9 (fun hHeld => ?_)
                clear hK K
                try simp only [Act.put, List.getElem_toArray, List.getElem_cons_succ, List.getElem_cons_zero]
                refine wpAnyH_ready (rs := [3]) (by kernel_rfl) (by simp) ?_
                refine AllReadyH.cons (o := _) rfl (fun K hK => ?_) (AllReadyH.nil)
                refine step_stV (E := eH) rfl 38 _ _ rfl size38 (w.heap.size + 1 + 1) _ J9 rfl ((q : Int), tG) rfl rfl ?_
                intro w10 L10 k10
                have hS10 : w10.heap[gv]? = w8.heap[gv]? ∧ w10.heap[gh]? = w8.heap[gh]? := ⟨(k10.block gv (by omega) (by intro h; have h := Option.some.inj h; omega)).trans hS9.1, (k10.block gh (by omega) (by intro h; have h := Option.some.inj h; omega)).trans hS9.2⟩
                refine hK.out _ _ hS10 (fun hHeld => ?_)
                clear hK K
                try simp only [Act.put, List.getElem_toArray, List.getElem_cons_succ, List.getElem_cons_zero]
                refine wpAnyH_take (i := 4) (oi := _) (v := ?_) rfl (by kernel_rfl) (by kernel_rfl) (by kernel_rfl) (fun _ _ _ h => h) (Or.inl ⟨by rfl, ?_⟩) hHeld ?_
                rotate_left
                · intro w' hSw
                  (go_simp <;> with_reducible rfl)
                try simp only [Act.put, List.getElem_toArray, List.getElem_cons_succ, List.getElem_cons_zero, List.setIfInBounds_toArray, List.set_cons_zero, List.set_cons_succ]
                refine wpAnyH_done (by kernel_rfl) ?_ _
                have e9 := load35 (x := (⟨sp, sc, sq, sd, p6, c6⟩ : Tw)) (Lv.kp L9 k10 (by omega))
                have e10 := load38 L10
                have B9 : Below w.heap.size w w9 := bel_kp B8.drew k9 (by omega) (by have := B8.size; exact this)
                have B10 : Below w.heap.size w w10 := bel_kp B9 k10 (by omega) B9.size
                have o10 := own_kp (own_kp (own_below o8 (Below.refl _ _).drew) k9 (by omega)) k10 (by omega)
                have g10 := rd_kpF (rd_kpF (r18.below (Below.refl _ _).drew) k9 (nn1.far (by omega))) k10 (nn1.far (by omega))
                have i10 := rd_kpF (rd_kpF (r28.below (Below.refl _ _).drew) k9 (nn2.far (by omega))) k10 (nn2.far (by omega))
                go_wp2
                refine bodyPost_ret (v := .tuple #[.agg #[.slice sp 12 sc, .slice sq 12 sd, .slice p6 12 c6], .agg #[.int .i64 (q : Int), .int .i64 tG], .bool true]) (by simp [results, Try.results23, asAddr, e9, e10]) rfl ⟨(⟨sp, sc, sq, sd, p6, c6⟩ : Tw), by first | rfl | (rw [hQ.1, hQ.2.1, hQ.2.2]; done), ?_, B10⟩
                rw [HT.out]
                exact ⟨g10, i10, ⟨_, own_rd o10, (hts.below B10).set q (okN.below B10)⟩, HLn.out.1, HLn.out.2, by simp [ht.tl]⟩
            · go_simp
              have hv : Lv (w4.alloc (.cells #[.slice none 0 0, .slice none 0 0, .slice none 0 0] 35)).drew w4.heap.size #[.slice none 0 0, .slice none 0 0, .slice none 0 0] 35 := Lv.draw (Lv.new _ _ _)
              have bv : Below w4.heap.size w4 (w4.alloc (.cells #[.slice none 0 0, .slice none 0 0, .slice none 0 0] 35)).drew := (bel_self _ _).drew
              have lzv := bv.size
              have hge : w4.heap.size ≤ w4.heap.size := Nat.le_refl _
              generalize hgW : (w4.alloc (.cells #[.slice none 0 0, .slice none 0 0, .slice none 0 0] 35)).drew = wv at *
              clear hgW
              obtain ⟨gv, hgv⟩ : ∃ gv, gv = w4.heap.size := ⟨_, rfl⟩
              rw [← hgv] at hv
              try simp only [← hgv]
              clear hge
              have hge : w4.heap.size ≤ gv := by rw [hgv]; exact Nat.le_refl _
              clear hgv
              refine hK.out _ _ bv (fun hHeld => ?_)
              clear hK K
              try simp only [Act.put, List.getElem_toArray, List.getElem_cons_succ, List.getElem_cons_zero, List.setIfInBounds_toArray, List.set_cons_zero, List.set_cons_succ]
              refine wpAnyH_ready (rs := [5]) (by kernel_rfl) (by simp) ?_
              refine AllReadyH.cons (o := _) rfl (fun K hK => ?_) (AllReadyH.nil)
              go_simp
              go_at_call 48; refine (freshT_c k (q : Int) tG _ S HS.out C HC.out).mono ?_
              rintro e w5 ⟨rfl, b5'⟩
              have b5 := bel_call bv (Nat.le_refl _) b5'
              have lz5 := b5.size
              have hv := hv.below b5'
              refine hK.out _ _ b5 (fun hHeld => ?_)
              clear hK K
              try simp only [Act.put, List.getElem_toArray, List.getElem_cons_succ, List.getElem_cons_zero, List.setIfInBounds_toArray, List.set_cons_zero, List.set_cons_succ]
              refine wpAnyH_ready (rs := [6]) (by kernel_rfl) (by simp) ?_
              refine AllReadyH.cons (o := _) rfl (fun K hK => ?_) (AllReadyH.nil)
              go_simp
              go_at_call 39; refine (with_own x xs _ (hxs.below (bW4.trans (b5.mono bW4.size))) HXL.out q hq12 (⟨k, (q : Int), tG, C, 0, none, 0, 0, none, 0, 0, 0, none, 0, 0, S⟩ : Tc)).mono ?_
              rintro e w6 ⟨p6, c6, rfl, o6, b6'⟩
              have lz6 := b6'.size
              have b6 := bel_call b5 (Nat.le_refl _) b6'
              have hv := hv.below b6'
              refine hK.out _ _ b6 (fun hHeld => ?_)
              clear hK K
              try simp only [Act.put, List.getElem_toArray, List.getElem_cons_succ, List.getElem_cons_zero, List.setIfInBounds_toArray, List.set_cons_zero, List.set_cons_succ]
              refine wpAnyH_ready (rs := [8]) (by kernel_rfl) (by simp) ?_
              refine AllReadyH.cons (o := _) rfl (fun K hK => ?_) (AllReadyH.nil)
              refine step_stV (E := eTb) rfl 35 _ _ rfl size35 gv _ hv rfl (⟨x.gp, x.gc, x.ip, x.ic, p6, c6⟩ : Tw) rfl rfl ?_
              intro w7 L7 k7
              have b7 : Below w4.heap.size w4 w7 := bel_kp b6 k7 hge b6.size
              have ft : Far p6 gv := Far.type o6 hv (by decide)
              have o7 := own_block_eq (w' := w7) o6 (fun b o e => k7.block b (by subst e; exact own_lt o6) (by intro h; have h := Option.some.inj h; exact ft b o e h))
              refine hK.out _ _ b7 (fun hHeld => ?_)
              clear hK K
              try simp only [Act.put, List.getElem_toArray, List.getElem_cons_succ, List.getElem_cons_zero]
              refine wpAnyH_done (by kernel_rfl) ?_ _
              have l7 : w4.heap.size ≤ w7.heap.size := b7.size
              have H7 := H3.below b7
              have S7 := S3.below b7
              have t0 := S7.c 0 rfl
              have t1 := S7.c 1 rfl
              have N7 : Vw w7 gv (⟨x.gp, x.gc, x.ip, x.ic, p6, c6⟩ : Tw) 35 := L7
              have r17 := r1.below b7
              have r27 := r2.below b7
              go_wp2_with (refine wpList_stP rfl 32 (.tmp 70) (.tmp 69) rfl gv 0 _ 35 N7 [.slice sp 12 sc, .slice sq 12 sd] size32p (by simp) (by intro v hv; simp at hv; rcases hv with rfl | rfl <;> rfl) rfl rfl ?_; intro w8 Q8 k8)
              have N8 : Vw w8 gv (⟨sp, sc, sq, sd, p6, c6⟩ : Tw) 35 := Q8
              have f8 : Far p6 gv := Far.type o7 N7 (by decide)
              have o8 := own_block_eq (w' := w8) o7 (fun b o e => k8.block b (by subst e; exact own_lt o7) (by intro h; have h := Option.some.inj h; exact f8 b o e h))
              have H8 := H7.kp k8 (by omega)
              have R8 : Lv w8 (w.heap.size + 1) #[.slice none 0 0, .slice none 0 0, .slice none 0 0] 35 := (R4.below b7).kp k8 (by omega)
              have J8 : Lv w8 (w.heap.size + 1 + 1) #[.int .i64 0, .int .i64 0] 38 := (J4.below b7).kp k8 (by omega)
              have r18 := rd_kpF r17 k8 (fp1.mono2 hge)
              have r28 := rd_kpF r27 k8 (fp2.mono2 hge)
              have qv2 : gv < w8.heap.size := N8.lt
              have qh2 : gh < w8.heap.size := H8.lt
              have lz8 := k8.size
              have B8 : Below w.heap.size w w8 := bel_kp (bW4.trans (b7.mono bW4.size)) k8 (by omega) (bW4.trans (b7.mono bW4.size)).size
              have hw4 := bW4.size
              clear hHeld t0 t1 N7 S7 H7 Q8
              refine wp_region_held_drew (S := fun w' => w'.heap[gv]? = w8.heap[gv]? ∧ w'.heap[gh]? = w8.heap[gh]?) (by kernel_rfl) ⟨rfl, rfl⟩ (fun hHeld => ?_)
              refine wpAnyH_take (i := 0) (oi := _) (v := ?_) rfl (by kernel_rfl) (by kernel_rfl) (by kernel_rfl) (fun _ _ _ h => h) (Or.inl ⟨by rfl, ?_⟩) hHeld ?_
              rotate_left
              · intro w' hSw
                obtain ⟨e0, e1, e2⟩ := Vw.at (show Vw w' gv (⟨sp, sc, sq, sd, p6, c6⟩ : Tw) 35 from hSw.1.trans N8)
                have h0 := Lv.c (show Lv w' gh #[.int .i64 (q : Int), .int .i64 tG] 38 from hSw.2.trans H8) 0 rfl
                have h1 := Lv.c (show Lv w' gh #[.int .i64 (q : Int), .int .i64 tG] 38 from hSw.2.trans H8) 1 rfl
                (go_simp <;> with_reducible rfl)
              try simp only [Act.put, List.getElem_toArray, List.getElem_cons_zero, List.setIfInBounds_toArray, List.set_cons_zero, List.set_cons_succ]
              refine wpAnyH_take (i := 1) (oi := _) (v := ?_) rfl (by kernel_rfl) (by kernel_rfl) (by kernel_rfl) (fun _ _ _ h => h) (Or.inl ⟨by rfl, ?_⟩) hHeld ?_
              rotate_left
              · intro w' hSw
                obtain ⟨e0, e1, e2⟩ := Vw.at (show Vw w' gv (⟨sp, sc, sq, sd, p6, c6⟩ : Tw) 35 from hSw.1.trans N8)
                have h0 := Lv.c (show Lv w' gh #[.int .i64 (q : Int), .int .i64 tG] 38 from hSw.2.trans H8) 0 rfl
                have h1 := Lv.c (show Lv w' gh #[.int .i64 (q : Int), .int .i64 tG] 38 from hSw.2.trans H8) 1 rfl
                (go_simp <;> with_reducible rfl)
              try simp only [Act.put, List.getElem_toArray, List.getElem_cons_succ, List.getElem_cons_zero, List.setIfInBounds_toArray, List.set_cons_zero, List.set_cons_succ]
              refine wpAnyH_ready (rs := [2]) (by kernel_rfl) (by simp) ?_
              refine AllReadyH.cons (o := _) rfl (fun K hK => ?_) (AllReadyH.nil)
              refine step_stV (E := eTb) rfl 35 _ _ rfl size35 (w.heap.size + 1) _ (Lv.draw R8) rfl (⟨sp, sc, sq, sd, p6, c6⟩ : Tw) rfl rfl ?_
              intro w9 L9 k9
              have lz9 : w8.heap.size ≤ w9.heap.size := k9.size
              have hS9 : w9.heap[gv]? = w8.heap[gv]? ∧ w9.heap[gh]? = w8.heap[gh]? := ⟨k9.block gv (by show gv < w8.heap.size; omega) (by intro h; have h := Option.some.inj h; omega), k9.block gh (by show gh < w8.heap.size; omega) (by intro h; have h := Option.some.inj h; omega)⟩
              have J9 := Lv.kp (Lv.draw J8) k9 (by omega)
              refine hK.out _ _ hS9 (fun hHeld => ?_)
              clear hK K
              try simp only [Act.put, List.getElem_toArray, List.getElem_cons_succ, List.getElem_cons_zero]
              refine wpAnyH_ready (rs := [3]) (by kernel_rfl) (by simp) ?_
              refine AllReadyH.cons (o := _) rfl (fun K hK => ?_) (AllReadyH.nil)
              refine step_stV (E := eH) rfl 38 _ _ rfl size38 (w.heap.size + 1 + 1) _ J9 rfl ((q : Int), tG) rfl rfl ?_
              intro w10 L10 k10
              have hS10 : w10.heap[gv]? = w8.heap[gv]? ∧ w10.heap[gh]? = w8.heap[gh]? := ⟨(k10.block gv (by omega) (by intro h; have h := Option.some.inj h; omega)).trans hS9.1, (k10.block gh (by omega) (by intro h; have h := Option.some.inj h; omega)).trans hS9.2⟩
              refine hK.out _ _ hS10 (fun hHeld => ?_)
              clear hK K
              try simp only [Act.put, List.getElem_toArray, List.getElem_cons_succ, List.getElem_cons_zero]
              refine wpAnyH_take (i := 4) (oi := _) (v := ?_) rfl (by kernel_rfl) (by kernel_rfl) (by kernel_rfl) (fun _ _ _ h => h) (Or.inl ⟨by rfl, ?_⟩) hHeld ?_
              rotate_left
              · intro w' hSw
                (go_simp <;> with_reducible rfl)
              try simp only [Act.put, List.getElem_toArray, List.getElem_cons_succ, List.getElem_cons_zero, List.setIfInBounds_toArray, List.set_cons_zero, List.set_cons_succ]
              refine wpAnyH_done (by kernel_rfl) ?_ _
              have e9 := load35 (x := (⟨sp, sc, sq, sd, p6, c6⟩ : Tw)) (Lv.kp L9 k10 (by omega))
              have e10 := load38 L10
              have B9 : Below w.heap.size w w9 := bel_kp B8.drew k9 (by omega) (by have := B8.size; exact this)
              have B10 : Below w.heap.size w w10 := bel_kp B9 k10 (by omega) B9.size
              have o10 := own_kp (own_kp (own_below o8 (Below.refl _ _).drew) k9 (by omega)) k10 (by omega)
              have g10 := rd_kpF (rd_kpF (r18.below (Below.refl _ _).drew) k9 (nn1.far (by omega))) k10 (nn1.far (by omega))
              have i10 := rd_kpF (rd_kpF (r28.below (Below.refl _ _).drew) k9 (nn2.far (by omega))) k10 (nn2.far (by omega))
              go_wp2
              refine bodyPost_ret (v := .tuple #[.agg #[.slice sp 12 sc, .slice sq 12 sd, .slice p6 12 c6], .agg #[.int .i64 (q : Int), .int .i64 tG], .bool true]) (by simp [results, Try.results23, asAddr, e9, e10]) rfl ⟨(⟨sp, sc, sq, sd, p6, c6⟩ : Tw), by first | rfl | (rw [hQ.1, hQ.2.1, hQ.2.2]; done), ?_, B10⟩
              rw [HT.out]
              exact ⟨g10, i10, ⟨_, own_rd o10, (hts.below B10).set q (okN.below B10)⟩, HLn.out.1, HLn.out.2, by simp [ht.tl]⟩
      · subst hmo
        have y1 : (k == 1) = false := by simpa using h1
        have z1 : decide (k = 1) = false := by simpa using h1
        have y2 : (k == 2) = false := by simpa using h2
        have z2 : decide (k = 2) = false := by simpa using h2
        have y3 : (k == 3) = false := by simpa using h3
        have z3 : decide (k = 3) = false := by simpa using h3
        have d1 : decide ((0 : Int) ≤ (l : Int)) = true := by simp
        have hQ : B = false ∧ A = 0 ∧ G = 0 := by
          have hf : mkOk T k = false := by unfold mkOk; rw [HM.out, HMO.out]; simp
          refine ⟨by rw [← HBB.out.1, hf], by rw [← HBB.out.2.1]; unfold mkA; rw [hf]; rfl, by rw [← HBB.out.2.2]; unfold mkG; rw [hf]; rfl⟩
        have HT : Hid (mkR T k = T) := by
          have hf : mkOk T k = false := by unfold mkOk; rw [HM.out, HMO.out]; simp
          show _ = _; unfold mkR; rw [hf]; rfl
        clear h1 h2 h3
        go_wp2_with (first
          | (go_at_call 52; refine (rtake_t x T N _ hT hw hN tA tG fr HF.out.2.1 HF.out.2.2 HF.out.1).mono ?_; rintro e w2 ⟨sp, sc, sq, sd, rfl, r1, r2, nn1, nn2, b2⟩; have s2 : Below w2.heap.size w2 ((w2.alloc (.cells #[.slice sp 12 sc, .slice sq 12 sd] 32)).alloc (.cells #[.int .i64 tA, .int .i64 tG] 38)) := ((Below.refl _ _).alloc (Nat.le_refl _) _).alloc (by simp) _; have a3 := bel_call b2 (Nat.le_refl _) s2; have S3 : Lv ((w2.alloc (.cells #[.slice sp 12 sc, .slice sq 12 sd] 32)).alloc (.cells #[.int .i64 tA, .int .i64 tG] 38)) w2.heap.size #[.slice sp 12 sc, .slice sq 12 sd] 32 := Lv.below (Lv.new _ _ _) (bel_self _ _); have H3 : Lv ((w2.alloc (.cells #[.slice sp 12 sc, .slice sq 12 sd] 32)).alloc (.cells #[.int .i64 tA, .int .i64 tG] 38)) (w2.heap.size + 1) #[.int .i64 tA, .int .i64 tG] 38 := heap_at (by simp); have R3 := hR.below a3; have J3 := hH.below a3; clear c0 c1 c2; obtain ⟨c0, c1, c2⟩ := (hV.below a3).at)
          | (refine wpList_stV (E := eTb) rfl 35 (.tmp 4) (.tmp 60) rfl size35 (w.heap.size + 1) _ R3 rfl x rfl rfl ?_; intro w9 L9 k9; have H9 := J3.kp k9 (by omega); have h90 := H9.c 0 rfl; have h91 := H9.c 1 rfl; have z90 := H9.fz 0; have z91 := H9.fz 1))
        have e9 := load35 L9
        have B9 : Below w.heap.size w w9 := bel_kp (bel_call bW (Nat.le_refl _) a3) k9 (by omega) (bel_call bW (Nat.le_refl _) a3).size
        have L10 : Lv ((w9.setCell ⟨w.heap.size + 1 + 1, 0, none⟩ (.int .i64 0)).setCell ⟨w.heap.size + 1 + 1, 1, none⟩ (.int .i64 0)) (w.heap.size + 1) _ 35 := (L9.far (a := ⟨w.heap.size + 1 + 1, 0, none⟩) (by simp) _).far (a := ⟨w.heap.size + 1 + 1, 1, none⟩) (by simp) _
        have e10 := load35 (x := x) L10
        have H10 := (H9.set 0 (.int .i64 0)).set 1 (.int .i64 0)
        have e11 := load38 (a := 0) (b := 0) H10
        have B10 := Below.setCell (Below.setCell B9 (p := ⟨w.heap.size + 1 + 1, 0, none⟩) (by show w.heap.size ≤ w.heap.size + 1 + 1; omega) (.int .i64 0)) (p := ⟨w.heap.size + 1 + 1, 1, none⟩) (by show w.heap.size ≤ w.heap.size + 1 + 1; omega) (.int .i64 0)
        refine bodyPost_ret (v := .tuple #[.agg #[.slice x.gp 12 x.gc, .slice x.ip 12 x.ic, .slice x.tp 12 x.tc], .agg #[.int .i64 0, .int .i64 0], .bool false]) (by simp [results, Try.results23, asAddr, e10, e11]) rfl ⟨x, by first | rfl | (rw [hQ.1, hQ.2.1, hQ.2.2]; done), ?_, B10⟩
        rw [HT.out]
        exact ht.below B10
end Go.Proofs.Ytcncpefdjgnhdaa
